/-
  SearchC0: the search of package keys over cubes, without memory.
-/
import Derived.Test.YtbieglmpkljjjaaContC
import Derived.Maps.OwnSet
import Derived.Laws.EntriesVeiled
import Derived.WalkArith
namespace Go.Proofs.Ytbieglmpkljjjaa
open Go.RowKit Go.Maps

theorem CubeOk.small {B : KB} (hG : GoodB B) {c : Nat → Int} (h : CubeOk B c) : SmallC c := fun i _ => by
  by_cases hi : i < B.nv
  · have hV := (hG.V i hi).2
    rcases h.val i hi with e | ⟨h1, h2⟩ <;> omega
  · rw [h.out i (by omega)]; omega
theorem CubeOk.eq {B : KB} (h5 : B.nv ≤ 5) {c d : Nat → Int} (hc : CubeOk B c) (hd : CubeOk B d) (h : ∀ i, i < 5 → c i = d i) : c = d := by
  funext i
  by_cases hi : i < 5
  · exact h i hi
  · rw [hc.out i (by omega), hd.out i (by omega)]
theorem CubeOk.parts {B : KB} {c : Nat → Int} (h : CubeOk B c) {m : Nat} (hm : m < B.nv) {y : Nat} (hy : y < partQ B c m) (hV : 0 ≤ B.V m) : CubeOk B (partC c m y) := by
  unfold partC
  unfold partQ at hy
  split
  · rename_i e
    rw [if_pos e] at hy
    exact h.part hm (by omega)
  · exact h
theorem costK5_bd {B : KB} (h5 : B.nv ≤ 5) (c : Nat → Int) : 0 ≤ costK5 B c ∧ costK5 B c ≤ B.nv := by
  have h1 := freeC_le B c
  have h2 := costC_bd (B := B) 5 c (by omega)
  unfold costK5; omega
theorem costK5_one {B : KB} {c : Nat → Int} (h : sameZ B (cubeF B c) = true) : costK5 B c = 0 := by
  unfold costK5; simp only [costC]; rw [if_pos h]
theorem costK5_eq {B : KB} (h5 : B.nv ≤ 5) {c : Nat → Int} (h : sameZ B (cubeF B c) = false) : costK5 B c = bestM B (costK5 B) c B.nv := by
  have e : costK5 B c = bestM B (costC B 4) c B.nv := by unfold costK5; simp only [costC]; rw [if_neg (by rw [h]; simp)]
  rw [e]
  refine bestM_congr (fun m hm hc v => ?_) _ (Nat.le_refl _)
  have h1 := freeC_part (B := B) (v := v) hm hc
  have h2 := freeC_le B c
  exact costC_five h5 (by omega) (by omega)
theorem worst_maxC {f : Nat → Int} (h : ∀ v, 0 ≤ f v) : ∀ n, worstTo f (n + 1) = 1 + maxF f n := by
  intro n
  induction n with
  | zero => simp only [worstTo, maxF]; have := h 0; omega
  | succ n ih =>
    have : worstTo f (n + 1 + 1) = max (worstTo f (n + 1)) (f (n + 1) + 1) := rfl
    rw [this, ih]
    simp only [maxF]
    omega
theorem bestM_none {B : KB} {K : (Nat → Int) → Int} {c : Nat → Int} : ∀ n, (∀ i, i < n → c i ≠ -1) → bestM B K c n = B.nv + 1 := by
  intro n
  induction n with
  | zero => intro _; rfl
  | succ n ih => intro h; simp only [bestM]; rw [if_neg (h n (by omega)), ih fun i hi => h i (by omega)]
def costQ (B : KB) (c : Nat → Int) (m : Nat) : Int := costM B (costK5 B) c m
theorem costQ_bd {B : KB} (h5 : B.nv ≤ 5) {c : Nat → Int} {m : Nat} (hm : m < B.nv) (hc : c m = -1) : 0 ≤ costQ B c m ∧ costQ B c m ≤ B.nv := by
  unfold costQ costM
  refine worst_bd (by omega) _ fun v _ => ?_
  have h1 := freeC_part (B := B) (v := v) hm hc
  have h2 := freeC_le B c
  have h3 := freeC_le B (upd c m (v : Int))
  have h4 := costC_bd (B := B) 5 (upd c m (v : Int)) (by omega)
  unfold costK5; omega
/-- what question has found among the first m marks -/
def AskC (B : KB) (c : Nat → Int) (m : Nat) (mk k : Int) : Prop := (mk = -1 ∧ k = 0 ∧ ∀ i, i < m → c i ≠ -1) ∨ (mk ≠ -1 ∧ k = bestM B (costK5 B) c m)
theorem AskC.zero (B : KB) (c : Nat → Int) : AskC B c 0 (-1) 0 := .inl ⟨rfl, rfl, fun i h => absurd h (Nat.not_lt_zero i)⟩
theorem AskC.skip {B : KB} {c : Nat → Int} {m : Nat} {mk k : Int} (h : AskC B c m mk k) (hs : c m ≠ -1) : AskC B c (m + 1) mk k := by
  rcases h with ⟨h1, h2, h3⟩ | ⟨h1, h2⟩
  · refine .inl ⟨h1, h2, fun i hi => ?_⟩
    by_cases e : i = m
    · rw [e]; exact hs
    · exact h3 i (by omega)
  · refine .inr ⟨h1, ?_⟩
    simp only [bestM]; rw [if_neg hs]; exact h2
theorem AskC.take {B : KB} (h5 : B.nv ≤ 5) {c : Nat → Int} {m : Nat} {mk k : Int} (h : AskC B c m mk k) (hm : m < B.nv) (hs : c m = -1) (hc : mk = -1 ∨ costQ B c m < k) : AskC B c (m + 1) m (costQ B c m) := by
  refine .inr ⟨by omega, ?_⟩
  have hb := costQ_bd h5 hm hs
  simp only [bestM]; rw [if_pos hs]
  show costQ B c m = min _ (costQ B c m)
  rcases h with ⟨h1, h2, h3⟩ | ⟨h1, h2⟩
  · rw [bestM_none m h3]; omega
  · rcases hc with hc | hc
    · exact absurd hc h1
    · rw [← h2]; omega
theorem AskC.keep {B : KB} {c : Nat → Int} {m : Nat} {mk k : Int} (h : AskC B c m mk k) (hs : c m = -1) (hm : mk ≠ -1) (hc : ¬ costQ B c m < k) : AskC B c (m + 1) mk k := by
  rcases h with ⟨h1, h2, h3⟩ | ⟨h1, h2⟩
  · exact absurd h1 hm
  · refine .inr ⟨h1, ?_⟩
    simp only [bestM]; rw [if_pos hs]
    show k = min _ (costQ B c m)
    rw [← h2]; omega
theorem AskC.found {B : KB} (h5 : B.nv ≤ 5) {c : Nat → Int} {mk k : Int} (h : AskC B c B.nv mk k) (hs : sameZ B (cubeF B c) = false) : k = costK5 B c := by
  rcases h with ⟨h1, h2, h3⟩ | ⟨h1, h2⟩
  · have h0 : freeC B c = 0 := by
      unfold freeC
      have key : ∀ n, n ≤ B.nv → cnt n (fun i => decide (c i = -1)) = 0 := by
        intro n
        induction n with
        | zero => intro _; rfl
        | succ n ihn =>
          intro hn
          simp only [cnt]
          rw [ihn (by omega), if_neg]
          rw [decide_eq_true_eq]
          exact h3 n (by omega)
      exact key _ (Nat.le_refl _)
    have := same_full h0
    rw [hs] at this; cases this
  · rw [costK5_eq h5 hs]; exact h2
/-- whether the parts of a cube hold the cube itself -/
theorem whole_cube {B : KB} (hG : GoodB B) {c : Nat → Int} {m : Nat} (hm : m < B.nv) : (anyB (partQ B c m) fun j => sameC (partC c m j) c) = decide (c m ≠ -1) := by
  have hm5 : m < 5 := by have := hG.nv; omega
  rw [Bool.eq_iff_iff, anyB_true, decide_eq_true_eq]
  unfold partQ partC sameC
  by_cases e : c m = -1
  · rw [if_pos e]
    constructor
    · rintro ⟨j, hj, h⟩
      simp only [e, if_true] at h
      rw [allB_true] at h
      have := of_decide_eq_true (h m hm5)
      rw [upd_same] at this
      omega
    · intro h; exact absurd e h
  · rw [if_neg e]
    refine ⟨fun _ => e, fun _ => ⟨0, by omega, ?_⟩⟩
    simp only [e, if_false]
    rw [allB_true]
    intro i _
    simp

end Go.Proofs.Ytbieglmpkljjjaa

namespace Go.Proofs.Ytbieglmpkljjjaa
open Go.RowKit Go.Maps

/-- the value of a search -/
def seaC (nv bk b : Nat) : Value := .agg #[.int .i64 nv, .func (.func 112) #[] #[.pointer (some ⟨bk, 0, none⟩)], .func (.func 114) #[] #[.pointer (some ⟨bk, 0, none⟩)], .func (.func 116) #[] #[], .map (some b)]

set_option maxRecDepth 100000 in
set_option maxHeartbeats 1600000 in
theorem searchEnds_any (nv ns nn : Nat) (a1 a2 a3 : Option Addr) (z1 z2 z3 : Nat) (w : World) (h63 : nv ≤ 5) :
    Calls Try.prog 77 #[.agg #[.slice a1 nv z1, .slice a2 ns z2, .slice a3 nn z3]] w fun e w' => e = .returned (seaC nv w.heap.size (w.heap.size + 2)) ∧ w'.heap[w.heap.size]? = some (.cells #[.slice a1 nv z1, .slice a2 ns z2, .slice a3 nn z3] 26) ∧ w'.heap[w.heap.size + 2]? = some (.map #[] 0) ∧ Below w.heap.size w w' := by
  have hmm : ∀ w, (Instr.makeMap 88 none).run Try.prog w = .ok (.map (some w.heap.size)) (w.alloc (.map #[] 0)) := fun w => rfl
  go_enter Try.func77, Try.ntmps77
  go_wp2
  refine bodyPost_ret (v := seaC nv w.heap.size (w.heap.size + 2)) ?_ rfl ?_
  · simp [results, Try.results77, go_sem, seaC]
  refine ⟨rfl, allocs_at [_, _, _] w 0 _ rfl, allocs_at [_, _, _] w 2 _ rfl, allocs_below [_, _, _] w⟩

theorem doneC_any (N : Nat) (bk : Nat) (B : KB) (a1 a2 a3 : Option Addr) (z1 z2 z3 : Nat) (c : Nat → Int) (w : World) (hbk : w.heap[bk]? = some (.cells #[.slice a1 B.nv z1, .slice a2 B.ns z2, .slice a3 B.D.n z3] 26)) (h : BookAt N w (.agg #[.slice a1 B.nv z1, .slice a2 B.ns z2, .slice a3 B.D.n z3]) B) (hG : GoodB B) (hc : CubeOk B c) (hns : B.ns ≤ 7) :
    Calls Try.prog 112 #[cubeV c, .pointer (some ⟨bk, 0, none⟩)] w fun e w' => e = .returned (.bool (sameZ B (cubeF B c))) ∧ Below w.heap.size w w' := by
  obtain ⟨ws, hws, HB, hsz, hblk⟩ := box1 w (.cells #[.int .i64 (c 0), .int .i64 (c 1), .int .i64 (c 2), .int .i64 (c 3), .int .i64 (c 4)] 94)
  have q0 := cell_blk hblk 0 rfl
  have q1 := cell_blk hblk 1 rfl
  have q2 := cell_blk hblk 2 rfl
  have q3 := cell_blk hblk 3 rfl
  have q4 := cell_blk hblk 4 rfl
  have hbk' := (HB.out.block bk (heap_lt hbk)).trans hbk
  have b0 := cell_blk hbk' 0 rfl
  have b1 := cell_blk hbk' 1 rfl
  have b2 := cell_blk hbk' 2 rfl
  have H := Lib.hid (oneEnd_any N _ B c ws (h.go HB.out) hG hc hns)
  clear h hblk hbk hbk'
  unfold cubeV at H ⊢
  go_enter Try.func112, Try.ntmps112
  go_wp2_with (go_at_call 113; refine H.out.mono ?_; rintro e w1 ⟨rfl, hb1⟩)
  go_ret
  exact ⟨rfl, fin HB.out hb1⟩

theorem partsC_any (N : Nat) (bk : Nat) (B : KB) (a1 a2 a3 : Option Addr) (z1 z2 z3 : Nat) (c : Nat → Int) (m : Nat) (w : World) (hbk : w.heap[bk]? = some (.cells #[.slice a1 B.nv z1, .slice a2 B.ns z2, .slice a3 B.D.n z3] 26)) (h : BookAt N w (.agg #[.slice a1 B.nv z1, .slice a2 B.ns z2, .slice a3 B.D.n z3]) B) (hG : GoodB B) (hm : m < B.nv) :
    Calls Try.prog 114 #[cubeV c, .int .i64 m, .pointer (some ⟨bk, 0, none⟩)] w fun e w' => ∃ v', e = .returned v' ∧ CubesIn w.heap.size w' v' (partQ B c m) (partC c m) ∧ Below w.heap.size w w' := by
  obtain ⟨ws, hws, HB, hsz, hblk⟩ := box1 w (.cells #[.int .i64 (c 0), .int .i64 (c 1), .int .i64 (c 2), .int .i64 (c 3), .int .i64 (c 4)] 94)
  have q0 := cell_blk hblk 0 rfl
  have q1 := cell_blk hblk 1 rfl
  have q2 := cell_blk hblk 2 rfl
  have q3 := cell_blk hblk 3 rfl
  have q4 := cell_blk hblk 4 rfl
  have hbkl := heap_lt hbk
  have hbk' := (HB.out.block bk hbkl).trans hbk
  have b0 := cell_blk hbk' 0 rfl
  have hm5 : m < 5 := by have := hG.nv; omega
  have hmi : (m : Int) < (B.nv : Int) := by omega
  have hV := hG.V m hm
  obtain ⟨q, hq⟩ : ∃ q : Nat, B.V m = q := ⟨(B.V m).toNat, by omega⟩
  obtain ⟨bv, ov, rfl, hbv, hv1⟩ := h.vals.cells (by omega)
  have hvs : bv < ws.heap.size := by have := h.1; have := HB.out.size; omega
  have hbs : bk < ws.heap.size := Nat.lt_of_lt_of_le hbkl HB.out.size
  have hvm := (HB.out.cell (p := ⟨bv, ov + m, none⟩) (by show bv < _; have := h.1; omega)).trans (hv1 m hm)
  rw [hq] at hvm hV
  have H : Hid (Calls Try.prog 115 #[cubeV c, .int .i64 m, .int .i64 q] ws.drew fun e w' => ∃ v', e = .returned v' ∧ CubesIn ws.heap.size w' v' (partQ B c m) (partC c m) ∧ Below ws.heap.size ws.drew w') := by
    unfold partQ partC
    rw [hq, Int.toNat_natCast]
    by_cases e : c m = -1
    · simp only [e, if_true]
      exact partsAll_any c m q ws.drew hm5 e (by omega) (by omega)
    · simp only [e, if_false]
      exact partsOne_any c m q ws.drew hm5 e
  have HB0 : Hid (Below ws.heap.size ws ws) := Below.refl _ _
  clear h hblk hbk hbk' hv1 hV hq
  unfold cubeV at H ⊢
  have S0d := old_of HB0.out.drew; have HB0d := S0d.2
  go_enter Try.func114, Try.ntmps114
  go_upto_region 1 with fail
  (try rw [hws])
  clear hws
  refine wp_region_held_drew (S := (fun w' => (∀ b o, b < ws.heap.size → w'.cell? ⟨b, o, none⟩ = ws.cell? ⟨b, o, none⟩) ∧ Hid (Below ws.heap.size ws w'))) (by kernel_rfl) S0d (fun hHeld => ?_)
  (refine wpAnyH_take (i := 0) (v := ?_) rfl (by kernel_rfl) (by kernel_rfl) (by kernel_rfl) (fun _ _ _ h => h) (Or.inl ⟨by rfl, ?_⟩) (by assumption) ?_; rotate_left; (focus (intro w hSw; (try dsimp only at hSw); go_simp; (try with_reducible rfl))); (try simp only [List.getElem_toArray, List.getElem_cons_zero, List.getElem_cons_succ, Act.put, List.setIfInBounds_toArray, List.set_cons_zero, List.set_cons_succ])); (refine wpAnyH_take (i := 1) (v := ?_) rfl (by kernel_rfl) (by kernel_rfl) (by kernel_rfl) (fun _ _ _ h => h) (Or.inl ⟨by rfl, ?_⟩) (by assumption) ?_; rotate_left; (focus (intro w hSw; (try dsimp only at hSw); go_simp; (try with_reducible rfl))); (try simp only [List.getElem_toArray, List.getElem_cons_zero, List.getElem_cons_succ, Act.put, List.setIfInBounds_toArray, List.set_cons_zero, List.set_cons_succ])); (refine wpAnyH_take (i := 2) (v := ?_) rfl (by kernel_rfl) (by kernel_rfl) (by kernel_rfl) (fun _ _ _ h => h) (Or.inl ⟨by rfl, ?_⟩) (by assumption) ?_; rotate_left; (focus (intro w hSw; (try dsimp only at hSw); go_simp; (try with_reducible rfl))); (try simp only [List.getElem_toArray, List.getElem_cons_zero, List.getElem_cons_succ, Act.put, List.setIfInBounds_toArray, List.set_cons_zero, List.set_cons_succ])); (refine wpAnyH_take (i := 3) (v := ?_) rfl (by kernel_rfl) (by kernel_rfl) (by kernel_rfl) (fun _ _ _ h => h) (Or.inl ⟨by rfl, ?_⟩) (by assumption) ?_; rotate_left; (focus (intro w hSw; (try dsimp only at hSw); go_simp; (try with_reducible rfl))); (try simp only [List.getElem_toArray, List.getElem_cons_zero, List.getElem_cons_succ, Act.put, List.setIfInBounds_toArray, List.set_cons_zero, List.set_cons_succ])); (refine wpAnyH_take (i := 4) (v := ?_) rfl (by kernel_rfl) (by kernel_rfl) (by kernel_rfl) (fun _ _ _ h => h) (Or.inl ⟨by rfl, ?_⟩) (by assumption) ?_; rotate_left; (focus (intro w hSw; (try dsimp only at hSw); go_simp; (try with_reducible rfl))); (try simp only [List.getElem_toArray, List.getElem_cons_zero, List.getElem_cons_succ, Act.put, List.setIfInBounds_toArray, List.set_cons_zero, List.set_cons_succ])); (refine wpAnyH_take (i := 5) (v := ?_) rfl (by kernel_rfl) (by kernel_rfl) (by kernel_rfl) (fun _ _ _ h => h) (Or.inl ⟨by rfl, ?_⟩) (by assumption) ?_; rotate_left; (focus (intro w hSw; (try dsimp only at hSw); go_simp; (try with_reducible rfl))); (try simp only [List.getElem_toArray, List.getElem_cons_zero, List.getElem_cons_succ, Act.put, List.setIfInBounds_toArray, List.set_cons_zero, List.set_cons_succ])); (refine wpAnyH_take (i := 6) (v := ?_) rfl (by kernel_rfl) (by kernel_rfl) (by kernel_rfl) (fun _ _ _ h => h) (Or.inl ⟨by rfl, ?_⟩) (by assumption) ?_; rotate_left; (focus (intro w hSw; (try dsimp only at hSw); go_simp; (try with_reducible rfl))); (try simp only [List.getElem_toArray, List.getElem_cons_zero, List.getElem_cons_succ, Act.put, List.setIfInBounds_toArray, List.set_cons_zero, List.set_cons_succ]))
  refine wpAnyH_ready (rs := [7]) (by kernel_rfl) (by simp) ?_; refine AllReadyH.cons rfl (fun K hK => ?_) AllReadyH.nil; go_simp
  go_at_call 115
  refine H.out.mono ?_
  rintro e w1 ⟨v1, rfl, hc1, hb1⟩
  have HB1 : Hid (Below ws.heap.size ws w1) := Lib.hid (HB0d.out.trans hb1)
  have S1 := old_of HB1.out
  refine hK.out _ _ S1 (fun hHeld => ?_); clear hK K; (try simp only [List.getElem_toArray, List.getElem_cons_zero, List.getElem_cons_succ, Act.put, List.setIfInBounds_toArray, List.set_cons_zero, List.set_cons_succ])
  (refine wpAnyH_take (i := 8) (v := ?_) rfl (by kernel_rfl) (by kernel_rfl) (by kernel_rfl) (fun _ _ _ h => h) (Or.inl ⟨by rfl, ?_⟩) (by assumption) ?_; rotate_left; (focus (intro w hSw; (try dsimp only at hSw); go_simp; (try with_reducible rfl))); (try simp only [List.getElem_toArray, List.getElem_cons_zero, List.getElem_cons_succ, Act.put, List.setIfInBounds_toArray, List.set_cons_zero, List.set_cons_succ]))
  refine wpAnyH_done (by kernel_rfl) ?_ _; clear hHeld
  go_wp2
  go_ret
  exact ⟨_, rfl, own_mono' hc1 HB.out.size, fin HB.out HB1.out⟩

theorem worstCube_any (N n : Nat) (v : Value) (c : Nat → Int) (f : Nat → Int) (w : World) (h : IntsAt N w v (n + 1) f) (hN : N ≤ w.heap.size) (hn : n ≤ 1000) (hb : -1 ≤ maxF f n ∧ maxF f n ≤ 1048576) :
    Calls Try.prog 116 #[cubeV c, v] w fun e w' => e = .returned (.int .i64 (1 + maxF f n)) ∧ Below w.heap.size w w' := by
  obtain ⟨ws, hws, HB, hsz, hblk⟩ := box1 w (.cells #[.int .i64 (c 0), .int .i64 (c 1), .int .i64 (c 2), .int .i64 (c 3), .int .i64 (c 4)] 94)
  have H := Lib.hid (max_any N n v f ws (h.go hN HB.out |>.mono (Below.refl _ _) (Nat.le_refl _)) hn)
  generalize maxF f n = t at *
  clear h hblk
  unfold cubeV
  go_enter Try.func116, Try.ntmps116
  go_wp2_with (go_at_call 122; (try rw [hws]); refine H.out.mono ?_; rintro e wq ⟨rfl, hwq⟩; rw [hwq]; clear hwq wq)
  go_ret
  exact ⟨ret_int (by omega), HB.out⟩

/-- the map b holds what has been found, in at most n turns -/
def FoundC (B : KB) (b n : Nat) (w : World) : Prop := ∃ D : DataW Unit, w.ownsMap Try.prog 94 (plainElem Try.prog 3) b n D ∧ ∀ c, CubeOk B c → has D (cubeKey c) = true → D.atKey (cubeKey c) (.lit (.int .i64 0)) = .lit (.int .i64 (costK5 B c))
theorem FoundC.mono {B : KB} {b n n' : Nat} {w : World} (h : FoundC B b n w) (hn : n ≤ n') : FoundC B b n' w := by
  obtain ⟨D, h1, h2⟩ := h; exact ⟨D, h1.mono hn, h2⟩
theorem FoundC.kept {B : KB} {b n : Nat} {w w' : World} (h : FoundC B b n w) {row : Option Nat} (hg : w.grownBy w' row) (hne : some b ≠ row) : FoundC B b n w' := by
  obtain ⟨D, h1, h2⟩ := h; exact ⟨D, h1.kept hg hne, h2⟩
theorem FoundC.below {B : KB} {b n : Nat} {w w' : World} (h : FoundC B b n w) (hb : Below w.heap.size w w') : FoundC B b n w' :=
  h.kept (row := none) ⟨hb.os, hb.tape, hb.output, hb.size, fun k hk _ => hb.block k hk⟩ (by simp)
theorem FoundC.lt {B : KB} {b n : Nat} {w : World} (h : FoundC B b n w) : b < w.heap.size := by
  obtain ⟨D, h1, _⟩ := h; exact h1.lt
theorem put_foundC {B : KB} (hG : GoodB B) {D : DataW Unit} (hm : IsMap D) {c : Nat → Int} (hc : CubeOk B c) (hD : ∀ c, CubeOk B c → has D (cubeKey c) = true → D.atKey (cubeKey c) (.lit (.int .i64 0)) = .lit (.int .i64 (costK5 B c))) :
    ∀ t, CubeOk B t → has (D.put (cubeKey c) (.lit (.int .i64 (costK5 B c)))) (cubeKey t) = true → (D.put (cubeKey c) (.lit (.int .i64 (costK5 B c)))).atKey (cubeKey t) (.lit (.int .i64 0)) = .lit (.int .i64 (costK5 B t)) := by
  intro t ht hh
  by_cases e : cubeKey t = cubeKey c
  · have := CubeOk.eq hG.nv ht hc (cubeKey_inj (ht.small hG) (hc.small hG) e)
    subst this
    exact atKey_put_same hm (cubeKey_lit (ht.small hG)) _ _
  · rw [has_put_other e] at hh
    rw [atKey_put_other e]
    exact hD t ht hh
theorem costK5_wf {B : KB} (hG : GoodB B) (c : Nat → Int) : (Lit.int .i64 (costK5 B c)).wf = true := by
  have h1 := costK5_bd hG.nv c
  have := hG.nv
  exact wf_small (by omega) (by omega)

/-- what least says of the cubes with at most f free marks -/
def SaysLC (B : KB) (bk b N f : Nat) : Prop := ∀ (c : Nat → Int) (n : Nat) (w : World), CubeOk B c → freeC B c ≤ f → SEnv B bk b N w → FoundC B b n w → n + 16 ^ f ≤ 1000000000000 →
    Calls Try.prog 78 #[seaC B.nv bk b, cubeV c] w fun e w' => e = .returned (.int .i64 (costK5 B c)) ∧ FoundC B b (n + 16 ^ f) w' ∧ w.grownBy w' (some b)
/-- what question says -/
def SaysQC (B : KB) (bk b N f : Nat) : Prop := ∀ (c : Nat → Int) (n : Nat) (w : World), CubeOk B c → sameZ B (cubeF B c) = false → freeC B c ≤ f + 1 → SEnv B bk b N w → FoundC B b n w → n + 15 * 16 ^ f ≤ 1000000000000 →
    Calls Try.prog 117 #[seaC B.nv bk b, cubeV c] w fun e w' => ∃ mk k, e = .returned (.tuple #[.int .i64 mk, .int .i64 k]) ∧ AskC B c B.nv mk k ∧ FoundC B b (n + 15 * 16 ^ f) w' ∧ w.grownBy w' (some b)

end Go.Proofs.Ytbieglmpkljjjaa

namespace Go.Proofs.Ytbieglmpkljjjaa
open Go.RowKit Go.Maps

theorem grownB {w w' : World} {b : Nat} (h : Below w.heap.size w w') : w.grownBy w' (some b) := grown_of_below h

set_option maxRecDepth 100000 in
set_option maxHeartbeats 1600000 in
theorem leastC_hit (B : KB) (hG : GoodB B) (bk b : Nat) (D : DataW Unit) (c : Nat → Int) (n : Nat) (w : World) (hc : CubeOk B c) (ho : w.ownsMap Try.prog 94 (plainElem Try.prog 3) b n D) (hh : has D (cubeKey c) = true) (hD : D.atKey (cubeKey c) (.lit (.int .i64 0)) = .lit (.int .i64 (costK5 B c))) :
    Calls Try.prog 78 #[seaC B.nv bk b, cubeV c] w fun e w' => e = .returned (.int .i64 (costK5 B c)) ∧ Below w.heap.size w w' := by
  have hkey := cubeKey_of (hc.small hG)
  obtain ⟨ws, hws, HB, hsz, hsz1, k0, k1⟩ := box2 w (.cells #[.int .i64 B.nv, .func (.func 112) #[] #[.pointer (some ⟨bk, 0, none⟩)], .func (.func 114) #[] #[.pointer (some ⟨bk, 0, none⟩)], .func (.func 116) #[] #[], .map (some b)] 90) (.cells #[.int .i64 (c 0), .int .i64 (c 1), .int .i64 (c 2), .int .i64 (c 3), .int .i64 (c 4)] 94)
  have hob : ws.ownsMap Try.prog 94 (plainElem Try.prog 3) b n D := ho.kept (row := none) ⟨HB.out.os, HB.out.tape, HB.out.output, HB.out.size, fun k hk _ => HB.out.block k hk⟩ (by simp)
  have s4 := cell_blk k0 4 rfl
  have q0 := cell_blk k1 0 rfl
  have q1 := cell_blk k1 1 rfl
  have q2 := cell_blk k1 2 rfl
  have q3 := cell_blk k1 3 rfl
  have q4 := cell_blk k1 4 rfl
  clear k0 k1
  unfold cubeV at hkey ⊢
  unfold seaC
  go_enter Try.func78, Try.ntmps78
  go_wp2_with (at_lookup; (try rw [hws]); refine wpList_lookup_own_ok_int _ rfl _ _ 88 rfl 94 3 .i64 lawCube Try.underlying88 Try.underlying3 (zeroInt _) b n D rfl hob _ _ rfl hkey ?_; intro x hat hwc; rw [hh])
  go_ret
  refine ⟨?_, HB.out⟩
  have h9 := hD.symm.trans hat
  injection h9 with h9
  injection h9 with _ h9
  rw [h9]; rfl

set_option maxRecDepth 100000 in
set_option maxHeartbeats 1600000 in
theorem leastC_one (B : KB) (hG : GoodB B) (hns : B.ns ≤ 7) (bk b N : Nat) (D : DataW Unit) (c : Nat → Int) (n : Nat) (w : World) (hc : CubeOk B c) (hn : n ≤ 1000000000000) (henv : SEnv B bk b N w) (ho : w.ownsMap Try.prog 94 (plainElem Try.prog 3) b n D) (hh : has D (cubeKey c) = false) (h1 : sameZ B (cubeF B c) = true) (hD : ∀ c, CubeOk B c → has D (cubeKey c) = true → D.atKey (cubeKey c) (.lit (.int .i64 0)) = .lit (.int .i64 (costK5 B c))) :
    Calls Try.prog 78 #[seaC B.nv bk b, cubeV c] w fun e w' => e = .returned (.int .i64 (costK5 B c)) ∧ FoundC B b (n + 1) w' ∧ w.grownBy w' (some b) := by
  have hkey := cubeKey_of (hc.small hG)
  have hc0 := costK5_one h1
  have HP := Lib.hid (put_foundC hG ho.isMap hc hD)
  have HW := Lib.hid (costK5_wf hG c)
  rw [hc0] at HW HP
  rw [hc0]
  obtain ⟨ws, hws, HB, hsz, hsz1, k0, k1⟩ := box2 w (.cells #[.int .i64 B.nv, .func (.func 112) #[] #[.pointer (some ⟨bk, 0, none⟩)], .func (.func 114) #[] #[.pointer (some ⟨bk, 0, none⟩)], .func (.func 116) #[] #[], .map (some b)] 90) (.cells #[.int .i64 (c 0), .int .i64 (c 1), .int .i64 (c 2), .int .i64 (c 3), .int .i64 (c 4)] 94)
  have hgb : w.grownBy ws (some b) := grown_of_below HB.out
  have hob : ws.ownsMap Try.prog 94 (plainElem Try.prog 3) b n D := ho.kept (row := none) ⟨HB.out.os, HB.out.tape, HB.out.output, HB.out.size, fun k hk _ => HB.out.block k hk⟩ (by simp)
  obtain ⟨a1, z1, a2, z2, a3, z3, hbk, hbook⟩ := (henv.go hgb).book
  have HDN := Lib.hid (doneC_any N bk B a1 a2 a3 z1 z2 z3 c ws hbk hbook hG hc hns)
  have s1 := cell_blk k0 1 rfl
  have s4 := cell_blk k0 4 rfl
  have q0 := cell_blk k1 0 rfl
  have q1 := cell_blk k1 1 rfl
  have q2 := cell_blk k1 2 rfl
  have q3 := cell_blk k1 3 rfl
  have q4 := cell_blk k1 4 rfl
  have HH1 := Lib.hid h1
  clear k0 k1 hbk hbook henv h1
  unfold cubeV at hkey HDN ⊢
  unfold seaC
  go_enter Try.func78, Try.ntmps78
  go_wp2_with (first
    | (at_lookup; (try rw [hws]); refine wpList_lookup_own_ok_int _ rfl _ _ 88 rfl 94 3 .i64 lawCube Try.underlying88 Try.underlying3 (zeroInt _) b n D rfl hob _ _ rfl hkey ?_; intro x hat hwc; rw [hh])
    | (go_at_call 112; refine HDN.out.mono ?_; rw [HH1.out]; rintro e w1 ⟨rfl, hb1⟩; have HB1 := Lib.hid hb1; have c1 := (old_of HB1.out).1; have hob1 : w1.ownsMap Try.prog 94 (plainElem Try.prog 3) b n D := hob.kept (row := none) ⟨HB1.out.os, HB1.out.tape, HB1.out.output, HB1.out.size, fun k hk _ => HB1.out.block k hk⟩ (by simp); clear hb1)
    | (at_mapUpdate; refine wpList_mapUpdate_in _ rfl _ _ _ 88 rfl 94 3 lawCube Try.underlying88 _ b n D rfl hob1 (by unfold maxLen; omega) _ _ _ rfl rfl hkey _ [] (plainElem_int Try.underlying3 HW.out) ?_; intro w2 hown2 hturn))
  go_ret
  exact ⟨rfl, ⟨_, hown2, HP.out⟩, grown_trans hgb (grown_trans (grown_of_below HB1.out) hturn.grown)⟩

set_option maxRecDepth 100000 in
set_option maxHeartbeats 1600000 in
theorem leastC_big (B : KB) (hG : GoodB B) (hns : B.ns ≤ 7) (bk b N f : Nat) (hq : SaysQC B bk b N f) (D : DataW Unit) (c : Nat → Int) (n : Nat) (w : World) (hc : CubeOk B c) (hn : n + 15 * 16 ^ f + 1 ≤ 1000000000000) (henv : SEnv B bk b N w) (ho : w.ownsMap Try.prog 94 (plainElem Try.prog 3) b n D) (hh : has D (cubeKey c) = false) (h1 : sameZ B (cubeF B c) = false) (hf : freeC B c ≤ f + 1) (hD : ∀ c, CubeOk B c → has D (cubeKey c) = true → D.atKey (cubeKey c) (.lit (.int .i64 0)) = .lit (.int .i64 (costK5 B c))) :
    Calls Try.prog 78 #[seaC B.nv bk b, cubeV c] w fun e w' => e = .returned (.int .i64 (costK5 B c)) ∧ FoundC B b (n + 15 * 16 ^ f + 1) w' ∧ w.grownBy w' (some b) := by
  have hkey := cubeKey_of (hc.small hG)
  have HW := Lib.hid (costK5_wf hG c)
  obtain ⟨ws, hws, HB, hsz, hsz1, k0, k1⟩ := box2 w (.cells #[.int .i64 B.nv, .func (.func 112) #[] #[.pointer (some ⟨bk, 0, none⟩)], .func (.func 114) #[] #[.pointer (some ⟨bk, 0, none⟩)], .func (.func 116) #[] #[], .map (some b)] 90) (.cells #[.int .i64 (c 0), .int .i64 (c 1), .int .i64 (c 2), .int .i64 (c 3), .int .i64 (c 4)] 94)
  have hgb : w.grownBy ws (some b) := grown_of_below HB.out
  have hob : ws.ownsMap Try.prog 94 (plainElem Try.prog 3) b n D := ho.kept (row := none) ⟨HB.out.os, HB.out.tape, HB.out.output, HB.out.size, fun k hk _ => HB.out.block k hk⟩ (by simp)
  have hbw : b < w.heap.size := ho.lt
  obtain ⟨a1, z1, a2, z2, a3, z3, hbk, hbook⟩ := (henv.go hgb).book
  have HDN := Lib.hid (doneC_any N bk B a1 a2 a3 z1 z2 z3 c ws hbk hbook hG hc hns)
  have HQA : Hid (∀ w1, Below ws.heap.size ws w1 → Calls Try.prog 117 #[seaC B.nv bk b, cubeV c] w1 fun e w' => ∃ mk k, e = .returned (.tuple #[.int .i64 mk, .int .i64 k]) ∧ AskC B c B.nv mk k ∧ FoundC B b (n + 15 * 16 ^ f) w' ∧ w1.grownBy w' (some b)) := fun w1 hb1 =>
    hq c n w1 hc h1 hf ((henv.go hgb).go (grown_of_below hb1)) (FoundC.below (B := B) (b := b) (n := n) ⟨D, hob, hD⟩ hb1) (by omega)
  have s0 := cell_blk k0 0 rfl
  have s1 := cell_blk k0 1 rfl
  have s2 := cell_blk k0 2 rfl
  have s3 := cell_blk k0 3 rfl
  have s4 := cell_blk k0 4 rfl
  have q0 := cell_blk k1 0 rfl
  have q1 := cell_blk k1 1 rfl
  have q2 := cell_blk k1 2 rfl
  have q3 := cell_blk k1 3 rfl
  have q4 := cell_blk k1 4 rfl
  have K0 := Lib.hid k0
  have K1 := Lib.hid k1
  have HH1 := Lib.hid h1
  have HG := Lib.hid hG
  have HC := Lib.hid hc
  have hb2 : w.heap.size ≠ b := by omega
  have hb3 : w.heap.size + 1 ≠ b := by omega
  clear k0 k1 hbk hbook henv h1 hq ho
  unfold cubeV at hkey HDN HQA ⊢
  unfold seaC at HQA ⊢
  go_enter Try.func78, Try.ntmps78
  go_wp2_with (first
    | (at_lookup; (try rw [hws]); refine wpList_lookup_own_ok_int _ rfl _ _ 88 rfl 94 3 .i64 lawCube Try.underlying88 Try.underlying3 (zeroInt _) b n D rfl hob _ _ rfl hkey ?_; intro x hat hwc; rw [hh])
    | (go_at_call 112; refine HDN.out.mono ?_; rw [HH1.out]; rintro e w1 ⟨rfl, hb1⟩; have HB1 := Lib.hid hb1; have c1 := (old_of HB1.out).1; clear hb1)
    | (go_at_call 117; refine (HQA.out _ HB1.out).mono ?_; rintro e w2 ⟨mk, c2, rfl, hask, ⟨D2, hown2, hD2⟩, hg2⟩; obtain rfl : c2 = costK5 B c := hask.found HG.out.nv HH1.out; clear c1; have t4 := (World.cell?_of_block (a := ⟨w.heap.size, 4, none⟩) ((hg2.block w.heap.size (Nat.lt_of_lt_of_le hsz HB1.out.size) (by simpa using hb2)).trans (HB1.out.block _ hsz))).trans s4; have r0 := (World.cell?_of_block (a := ⟨w.heap.size + 1, 0, none⟩) ((hg2.block (w.heap.size + 1) (Nat.lt_of_lt_of_le hsz1 HB1.out.size) (by simpa using hb3)).trans (HB1.out.block _ hsz1))).trans q0; have r1 := (World.cell?_of_block (a := ⟨w.heap.size + 1, 1, none⟩) ((hg2.block (w.heap.size + 1) (Nat.lt_of_lt_of_le hsz1 HB1.out.size) (by simpa using hb3)).trans (HB1.out.block _ hsz1))).trans q1; have r2 := (World.cell?_of_block (a := ⟨w.heap.size + 1, 2, none⟩) ((hg2.block (w.heap.size + 1) (Nat.lt_of_lt_of_le hsz1 HB1.out.size) (by simpa using hb3)).trans (HB1.out.block _ hsz1))).trans q2; have r3 := (World.cell?_of_block (a := ⟨w.heap.size + 1, 3, none⟩) ((hg2.block (w.heap.size + 1) (Nat.lt_of_lt_of_le hsz1 HB1.out.size) (by simpa using hb3)).trans (HB1.out.block _ hsz1))).trans q3; have r4 := (World.cell?_of_block (a := ⟨w.heap.size + 1, 4, none⟩) ((hg2.block (w.heap.size + 1) (Nat.lt_of_lt_of_le hsz1 HB1.out.size) (by simpa using hb3)).trans (HB1.out.block _ hsz1))).trans q4; have HP := Lib.hid (put_foundC HG.out hown2.isMap HC.out hD2); skip)
    | (at_mapUpdate; refine wpList_mapUpdate_in _ rfl _ _ _ 88 rfl 94 3 lawCube Try.underlying88 _ b _ D2 rfl hown2 (by unfold maxLen; omega) _ _ _ rfl rfl hkey _ [] (plainElem_int Try.underlying3 HW.out) ?_; intro w3 hown3 hturn))
  go_ret
  exact ⟨rfl, ⟨_, hown3, HP.out⟩, grown_trans hgb (grown_trans (grown_of_below HB1.out) (grown_trans hg2 hturn.grown))⟩

end Go.Proofs.Ytbieglmpkljjjaa

namespace Go.Proofs.Ytbieglmpkljjjaa
open Go.RowKit Go.Maps

set_option maxRecDepth 100000 in
set_option maxHeartbeats 6400000 in
theorem questionC (B : KB) (hG : GoodB B) (bk b N f : Nat) (hls : SaysLC B bk b N f) : SaysQC B bk b N f := by
  intro c n w hc h1 hf henv hfo hn
  obtain ⟨i0, hi, hz0, hz1, hz2⟩ := info_parts Try.infoInt
  obtain ⟨wb, hwb, HBb, hszb, hszb1, k0, k1⟩ := box2 w (.cells #[.int .i64 B.nv, .func (.func 112) #[] #[.pointer (some ⟨bk, 0, none⟩)], .func (.func 114) #[] #[.pointer (some ⟨bk, 0, none⟩)], .func (.func 116) #[] #[], .map (some b)] 90) (.cells #[.int .i64 (c 0), .int .i64 (c 1), .int .i64 (c 2), .int .i64 (c 3), .int .i64 (c 4)] 94)
  have hgb : w.grownBy wb (some b) := grown_of_below HBb.out
  have HFO : Hid (FoundC B b n wb) := hfo.below HBb.out
  have hbw : b < w.heap.size := hfo.lt
  have hb2 : w.heap.size ≠ b := by omega
  have hb3 : w.heap.size + 1 ≠ b := by omega
  have HENV := Lib.hid (henv.go hgb)
  have s0 := cell_blk k0 0 rfl
  have s1 := cell_blk k0 1 rfl
  have s2 := cell_blk k0 2 rfl
  have s3 := cell_blk k0 3 rfl
  have s4 := cell_blk k0 4 rfl
  have p0 := cell_blk k1 0 rfl
  have p1 := cell_blk k1 1 rfl
  have p2 := cell_blk k1 2 rfl
  have p3 := cell_blk k1 3 rfl
  have p4 := cell_blk k1 4 rfl
  have HC := Lib.hid hc
  have HLS := Lib.hid hls
  have HG := Lib.hid hG
  have HGB := Lib.hid hgb
  have HF := Lib.hid hf
  have hnv5 := hG.nv
  obtain ⟨K, hK⟩ : ∃ K, 16 ^ f = K := ⟨_, rfl⟩
  have HK := Lib.hid hK
  rw [hK] at hn ⊢
  clear henv hfo k0 k1 hls hG hc hgb hK hf
  have HGr : Hid (wb.grownBy wb (some b)) := grown_of_below (Below.refl _ _)
  unfold seaC cubeV
  go_enter Try.func117, Try.ntmps117
  go_wp2
  (try rw [hwb])
  clear hwb
  go_loopw [4, 5, 14] (fun tm tc i wr => ∃ m : Nat, ∃ mk k : Int, m ≤ B.nv ∧ i = .int .i64 m ∧ tm = .int .i64 mk ∧ tc = .int .i64 k ∧ Hid (AskC B c m mk k) ∧ Hid (FoundC B b (n + m * (3 * K)) wr) ∧ Hid (wb.grownBy wr (some b))) (fun _ _ i _ => B.nv - (intOf i).toNat)
  case atStart => exact ⟨0, -1, 0, Nat.zero_le _, rfl, rfl, rfl, AskC.zero _ _, HFO.out.mono (by omega), HGr⟩
  case round =>
    obtain ⟨m, mk, k, hm, rfl, rfl, rfl, HA, HF1, HG1⟩ := hrel
    have g1 := fun o => (grown_cell HG1.out hszb hb2 o)
    have g2 := fun o => (grown_cell HG1.out hszb1 hb3 o)
    have t0 := (g1 0).trans s0
    have t1 := (g1 1).trans s1
    have t2 := (g1 2).trans s2
    have t3 := (g1 3).trans s3
    have t4 := (g1 4).trans s4
    have r0 := (g2 0).trans p0
    have r1 := (g2 1).trans p1
    have r2 := (g2 2).trans p2
    have r3 := (g2 3).trans p3
    have r4 := (g2 4).trans p4
    have hs1 := HG1.out.size
    clear g1 g2
    by_cases hmn : m < B.nv
    · have hmi : (m : Int) < (B.nv : Int) := by omega
      obtain ⟨a1, z1, a2, z2, a3, z3, hbk, hbook⟩ := (HENV.out.go HG1.out).book
      have hpa := partsC_any N bk B a1 a2 a3 z1 z2 z3 c m wr hbk hbook HG.out hmn
      unfold cubeV at hpa
      have HPA := Lib.hid hpa
      have HWC := Lib.hid (whole_cube (c := c) HG.out hmn)
      have HMN := Lib.hid hmn
      clear hbk hbook hpa
      have hV := HG.out.V m hmn
      have hbr : b < wr.heap.size := Nat.lt_of_lt_of_le hbw (Nat.le_trans HBb.out.size HG1.out.size)
      have hbb0 : w.heap.size < wr.heap.size := Nat.lt_of_lt_of_le hszb hs1
      have hbb1 : w.heap.size + 1 < wr.heap.size := Nat.lt_of_lt_of_le hszb1 hs1
      have hqp : partQ B c m ≤ 1000 := by unfold partQ; split <;> omega
      by_cases hcm : c m = -1
      · obtain ⟨q, hqq⟩ : ∃ q, (B.V m).toNat = q := ⟨_, rfl⟩
        have hq3 : q ≤ 3 := by omega
        have hq2 : 2 ≤ q := by omega
        have hPQ : partQ B c m = q := by unfold partQ; rw [if_pos hcm, hqq]
        have hPC : ∀ y, partC c m y = upd c m (y : Int) := fun y => by unfold partC; rw [if_pos hcm]
        have HW0 : Hid (decide (c m ≠ -1) = false) := decide_eq_false (fun h => h hcm)
        have HPC := Lib.hid hPC
        have HCM := Lib.hid hcm
        have HQQ := Lib.hid hqq
        rw [hPQ] at HPA HWC
        clear hcm hV hPQ hPC hqp hqq
        go_wp2_with (first
          | (go_at_call 114; refine HPA.out.mono ?_; rintro e w2 ⟨vP, rfl, hcu, hb2'⟩; have HCU := Lib.hid hcu; obtain ⟨gP, cP, rfl, hgP, hgPs, hcs⟩ := hcu; have HB2 := Lib.hid hb2'; have c2 := (old_of HB2.out).1; clear hb2')
          | (go_at_call 142; have hcc := containsCube_any wr.heap.size _ q (partC c m) c w2 HCU.out (by omega); unfold cubeV at hcc; refine hcc.mono ?_; rw [HWC.out, HW0.out]; rintro e w3 ⟨rfl, hb3'⟩; have HB23 := Lib.hid hb3'; have HB3 := Lib.hid (bel HB2.out hb3'); clear hb3' c2))
        obtain ⟨cf, hcf⟩ : ∃ cf : Nat → Int, (fun y : Nat => costK5 B (upd c m (y : Int))) = cf := ⟨_, rfl⟩
        have HCF := Lib.hid hcf
        have HCFy : Hid (∀ y : Nat, costK5 B (upd c m (y : Int)) = cf y) := fun y => by rw [← hcf]
        clear hcf
        have HCS : Hid (∀ y, y < q → ∀ i, i < 5 → w3.cell? ⟨gP, y * 5 + i, none⟩ = some (.int .i64 (upd c m (y : Int) i))) := fun y hy i hi => by
          rw [HB23.out.cell (p := ⟨gP, y * 5 + i, none⟩) hgPs, hcs y hy i hi, HPC.out]
        have hgP3 : gP < w3.heap.size := Nat.lt_of_lt_of_le hgPs HB23.out.size
        have hgPb : gP ≠ b := by omega
        have hb3s : b < w3.heap.size := Nat.lt_of_lt_of_le hbr HB3.out.size
        have HG3 : Hid (wb.grownBy w3 (some b)) := grown_trans HG1.out (grown_of_below HB3.out)
        have HF3 : Hid (FoundC B b (n + m * (3 * K)) w3) := HF1.out.below HB3.out
        have HGi : Hid (w3.grownBy w3 (some b)) := grown_of_below (Below.refl _ _)
        clear hcs t0 t1 t2 t3 t4 r0 r1 r2 r3 r4
        go_loopw [8, 27] (fun t i wr => ∃ y : Nat, y ≤ q ∧ i = .int .i64 y ∧ Hid (OwnI w3.heap.size wr t (costsL cf y)) ∧ Hid (FoundC B b (n + m * (3 * K) + y * K) wr) ∧ Hid (w3.grownBy wr (some b))) (fun _ i _ => q - (intOf i).toNat)
        case atStart => exact ⟨0, Nat.zero_le _, rfl, own_nil _ _, HF3.out.mono (by omega), HGi⟩
        case round =>
          obtain ⟨y, hy, rfl, ho, HFy, HGy⟩ := hrel
          have HGz : Hid (wb.grownBy wr (some b)) := grown_trans HG3.out HGy.out
          have g1 := fun o => (grown_cell HGz.out hszb hb2 o)
          have g2 := fun o => (grown_cell HGz.out hszb1 hb3 o)
          have t0 := (g1 0).trans s0
          have t1 := (g1 1).trans s1
          have t2 := (g1 2).trans s2
          have t3 := (g1 3).trans s3
          have t4 := (g1 4).trans s4
          have r0 := (g2 0).trans p0
          have r1 := (g2 1).trans p1
          have r2 := (g2 2).trans p2
          have r3 := (g2 3).trans p3
          have r4 := (g2 4).trans p4
          have hsy := HGy.out.size
          have hbz0 : w.heap.size < wr.heap.size := Nat.lt_of_lt_of_le hszb HGz.out.size
          have hbz1 : w.heap.size + 1 < wr.heap.size := Nat.lt_of_lt_of_le hszb1 HGz.out.size
          clear g1 g2
          have hyK : (y + 1) * K = y * K + K := Nat.succ_mul _ _
          have hyK3 : y * K ≤ 3 * K := Nat.mul_le_mul_right _ (by omega)
          have hmK : (m + 1) * (3 * K) = m * (3 * K) + 3 * K := Nat.succ_mul _ _
          have hmK5 : (m + 1) * (3 * K) ≤ 5 * (3 * K) := Nat.mul_le_mul_right _ (by have := HMN.out; omega)
          have hown := own_mono ho.out (Nat.le_refl _)
          have hcl := costsL_len cf y
          by_cases hyq : y < q
          · have hyi : (y : Int) < (q : Int) := by omega
            have hyK4 : (y + 1) * K ≤ 3 * K := Nat.mul_le_mul_right _ (by omega)
            obtain ⟨d, hd⟩ : ∃ d, upd c m (y : Int) = d := ⟨_, rfl⟩
            have e0 := (grown_cell HGy.out hgP3 hgPb _).trans (HCS.out y hyq 0 (by omega))
            rw [Nat.add_zero] at e0
            have e1 := (grown_cell HGy.out hgP3 hgPb _).trans (HCS.out y hyq 1 (by omega))
            have e2 := (grown_cell HGy.out hgP3 hgPb _).trans (HCS.out y hyq 2 (by omega))
            have e3 := (grown_cell HGy.out hgP3 hgPb _).trans (HCS.out y hyq 3 (by omega))
            have e4 := (grown_cell HGy.out hgP3 hgPb _).trans (HCS.out y hyq 4 (by omega))
            have HSN := Lib.hid (costsL_snoc cf y)
            have hcd : CubeOk B (upd c m (y : Int)) := HC.out.part HMN.out (by have := HQQ.out; omega)
            have hfd : freeC B (upd c m (y : Int)) ≤ f := by have := freeC_part (B := B) (v := y) HMN.out HCM.out; have := HF.out; omega
            obtain ⟨wa, hwa, HBa, hsza, hblka⟩ := box1 wr (.cells #[.int .i64 (d 0), .int .i64 (d 1), .int .i64 (d 2), .int .i64 (d 3), .int .i64 (d 4)] 94)
            have hle := HLS.out (upd c m (y : Int)) (n + m * (3 * K) + y * K) wa hcd hfd (HENV.out.go (grown_trans HGz.out (grown_of_below HBa.out))) (HFy.out.below HBa.out) (by rw [HK.out]; omega)
            rw [HK.out, HCFy.out] at hle
            rw [hd] at hle e0 e1 e2 e3 e4
            unfold seaC cubeV at hle
            have HLE := Lib.hid hle
            have v0 := cell_blk hblka 0 rfl
            have v1 := cell_blk hblka 1 rfl
            have v2 := cell_blk hblka 2 rfl
            have v3 := cell_blk hblka 3 rfl
            have v4 := cell_blk hblka 4 rfl
            have ca := (old_of HBa.out).1
            have HYQ := Lib.hid hyq
            have howna := own_below hown HBa.out
            clear hle hd hcd hfd hblka hyq hy
            generalize costsL cf y = li at *
            go_wp2_with (first
              | (go_at_call 78; (try rw [hwa]); refine HLE.out.mono ?_; rintro e w4 ⟨rfl, hf4, hg4⟩; have HF4 := Lib.hid hf4; have HG4 := Lib.hid hg4; have hs4 := hg4.size; have hown4 := World.ownsRow.kept howna hg4 (.inr (by intro e9; have := (howna.lt b e9).1; omega)); clear hf4 hg4 ca v0 v1 v2 v3 v4)
              | (at_builtin; refine wpList_append_own _ rfl _ _ 22 rfl w3.heap.size 3 i0 (.int .i64 0) 1 8 Try.underlying22 hi hz0 hz1 hz2 rfl (by decide) _ _ _ rfl (hown4.alloc _) ⟨w4.heap.size, 0, none⟩ 1 1 [.int .i64 (cf y)] rfl rfl (cell_one_new _ _ _) (by simp [Value.oneCell']) (by unfold maxLen; omega) (by omega) (by simp; omega) ?_; intro v' w5 hown5 hgrow _))
            go_roundw
            case rel =>
              have hga := grown_own (b := b) (grown_trans (grown_trans (grown_trans HGy.out (grown_of_below HBa.out)) HG4.out) (World.grownBy_alloc w4 _ _)) hgrow (fun j e => (hown4.lt j e).1)
              refine ⟨y + 1, HYQ.out, by go_num, by rw [HSN.out]; unfold Hid OwnI; rw [List.length_append, List.map_append]; exact hown5, ?_, hga⟩
              exact ((HF4.out.kept (World.grownBy_alloc w4 _ none) (by simp)).kept hgrow (by intro e9; have := (hown4.lt b e9.symm).1; omega)).mono (by omega)
            case measure => simp [intOf]; have := HYQ.out; omega
          · have hyq' : y = q := by omega
            subst hyq'
            obtain ⟨r, hr⟩ : ∃ r, y = r + 1 := ⟨y - 1, by omega⟩
            have hcq : costQ B c m = 1 + maxF cf r := by
              unfold costQ costM
              rw [HQQ.out, hr, ← HCF.out]
              exact worst_maxC (fun v => (costK5_bd HG.out.nv _).1) r
            have HCI : Hid (IntsAt wr.heap.size wr u8 (r + 1) cf) := by rw [← hr]; exact costs_ints ho.out (by omega)
            have HMB : Hid (-1 ≤ maxF cf r ∧ maxF cf r ≤ 1048576) := by
              have := costQ_bd HG.out.nv HMN.out HCM.out
              rw [hcq] at this
              unfold Hid; omega
            have HCC : Hid (1 + maxF cf r = costQ B c m) := hcq.symm
            obtain ⟨cS, hcS⟩ : ∃ cS, costQ B c m = cS := ⟨_, rfl⟩
            have HCQ := Lib.hid hcS
            rw [hcS] at HCC
            have hyi : ¬ ((y : Nat) : Int) < ((y : Nat) : Int) := by omega
            by_cases hmk : mk = -1
            · have hmke : (mk == -1) = true := by rw [hmk]; rfl
              have HAT : Hid (AskC B c (m + 1) m cS) := by have := HA.out.take HG.out.nv HMN.out HCM.out (.inl hmk); rw [hcS] at this; exact this
              clear hmk
              go_wp2_with (go_at_call 116; have hwo := worstCube_any wr.heap.size r _ c cf wr HCI.out (Nat.le_refl _) (by omega) HMB.out; unfold cubeV at hwo; refine hwo.mono ?_; rw [HCC.out]; rintro e w6 ⟨rfl, hb6⟩; have HB6 := Lib.hid hb6; clear hb6)
              go_roundw
              case rel => exact ⟨m + 1, m, cS, HMN.out, by go_num, rfl, rfl, HAT, (HFy.out.below HB6.out).mono (by omega), grown_trans HGz.out (grown_of_below HB6.out)⟩
              case measure => simp [intOf]; omega
            · have hmke : (mk == -1) = false := by simp [hmk]
              by_cases hlt : cS < k
              · have HAT : Hid (AskC B c (m + 1) m cS) := by have := HA.out.take HG.out.nv HMN.out HCM.out (.inr (by rw [hcS]; exact hlt)); rw [hcS] at this; exact this
                clear hmk
                go_wp2_with (go_at_call 116; have hwo := worstCube_any wr.heap.size r _ c cf wr HCI.out (Nat.le_refl _) (by omega) HMB.out; unfold cubeV at hwo; refine hwo.mono ?_; rw [HCC.out]; rintro e w6 ⟨rfl, hb6⟩; have HB6 := Lib.hid hb6; clear hb6)
                go_roundw
                case rel => exact ⟨m + 1, m, cS, HMN.out, by go_num, rfl, rfl, HAT, (HFy.out.below HB6.out).mono (by omega), grown_trans HGz.out (grown_of_below HB6.out)⟩
                case measure => simp [intOf]; omega
              · have HAT : Hid (AskC B c (m + 1) mk k) := HA.out.keep HCM.out hmk (by rw [hcS]; exact hlt)
                clear hmk
                go_wp2_with (go_at_call 116; have hwo := worstCube_any wr.heap.size r _ c cf wr HCI.out (Nat.le_refl _) (by omega) HMB.out; unfold cubeV at hwo; refine hwo.mono ?_; rw [HCC.out]; rintro e w6 ⟨rfl, hb6⟩; have HB6 := Lib.hid hb6; clear hb6)
                go_roundw
                case rel => exact ⟨m + 1, mk, k, HMN.out, by go_num, rfl, rfl, HAT, (HFy.out.below HB6.out).mono (by omega), grown_trans HGz.out (grown_of_below HB6.out)⟩
                case measure => simp [intOf]; omega
      · have HAS : Hid (AskC B c (m + 1) mk k) := HA.out.skip hcm
        have HW1 : Hid (decide (c m ≠ -1) = true) := decide_eq_true hcm
        obtain ⟨pq, hpq⟩ : ∃ z, partQ B c m = z := ⟨_, rfl⟩
        rw [hpq] at HPA HWC hqp
        clear hcm hV hpq
        go_wp2_with (first
          | (go_at_call 114; refine HPA.out.mono ?_; rintro e w2 ⟨vP, rfl, hcu, hb2'⟩; have HCU := Lib.hid hcu; have HB2 := Lib.hid hb2'; have c2 := (old_of HB2.out).1; clear hb2' hcu)
          | (go_at_call 142; have hcc := containsCube_any wr.heap.size vP pq (partC c m) c w2 HCU.out hqp; unfold cubeV at hcc; refine hcc.mono ?_; rw [HWC.out, HW1.out]; rintro e w3 ⟨rfl, hb3'⟩; have HB3 := Lib.hid (bel HB2.out hb3'); clear hb3' c2))
        go_roundw
        case rel =>
          have h15 : (m + 1) * (3 * K) = m * (3 * K) + 3 * K := Nat.succ_mul _ _
          exact ⟨m + 1, mk, k, HMN.out, by go_num, rfl, rfl, HAS, (HF1.out.below HB3.out).mono (by omega), grown_trans HG1.out (grown_of_below HB3.out)⟩
        case measure => simp [intOf]; omega
    · have hmi : ¬ (m : Int) < (B.nv : Int) := by omega
      have hme : m = B.nv := by omega
      subst hme
      go_wp2
      go_ret2
      have h15 : B.nv * (3 * K) ≤ 5 * (3 * K) := Nat.mul_le_mul_right _ (by omega)
      exact ⟨mk, k, rfl, HA.out, HF1.out.mono (by omega), grown_trans HGB.out HG1.out⟩

end Go.Proofs.Ytbieglmpkljjjaa
