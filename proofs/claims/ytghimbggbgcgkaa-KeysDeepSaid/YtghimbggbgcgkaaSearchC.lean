/-
  SearchC: the search of package keys over cubes of fruits.
-/
import Derived.Test.YtghimbggbgcgkaaSearchC0
import Derived.Maps.OwnSet
import Derived.Laws.EntriesVeiled
import Derived.WalkArith
namespace Go.Proofs.Ytghimbggbgcgkaa
open Go.RowKit Go.Maps

/-- the value of a search -/
def seaC (nv bk b : Nat) : Value := .agg #[.int .i64 nv, .func (.func 112) #[] #[.pointer (some ⟨bk, 0, none⟩)], .func (.func 114) #[] #[.pointer (some ⟨bk, 0, none⟩)], .func (.func 116) #[] #[], .map (some b)]

set_option maxRecDepth 100000 in
set_option maxHeartbeats 1600000 in
theorem searchEnds_any (nv ns nn : Nat) (a1 a2 a3 : Option Addr) (z1 z2 z3 : Nat) (w : World) (h63 : nv ≤ 5) :
    Calls Try.prog 77 #[.agg #[.slice a1 nv z1, .slice a2 ns z2, .slice a3 nn z3]] w fun e w' => e = .returned (seaC nv w.heap.size (w.heap.size + 2)) ∧ w'.heap[w.heap.size]? = some (.cells #[.slice a1 nv z1, .slice a2 ns z2, .slice a3 nn z3] 26) ∧ w'.heap[w.heap.size + 2]? = some (.map #[] 0) ∧ Below w.heap.size w w' := by
  have hmm : ∀ w, (Instr.makeMap 88 none).run Try.prog w = .ok (.map (some w.heap.size)) (w.alloc (.map #[] 0)) := fun w => rfl
  go_enter Try.func77, Try.ntmps77
  go_wp2
  refine bodyPost_ret (v := seaC nv w.heap.size (w.heap.size + 2)) ?_ rfl ?_
  · simp [results, Try.results77, go_sem, seaC]
  refine ⟨rfl, allocs_at [_, _, _] w 0 _ rfl, allocs_at [_, _, _] w 2 _ rfl, allocs_below [_, _, _] w⟩

theorem doneC_any (N : Nat) (bk : Nat) (B : KB) (a1 a2 a3 : Option Addr) (z1 z2 z3 : Nat) (c : Nat → Int) (w : World) (hbk : w.heap[bk]? = some (.cells #[.slice a1 B.nv z1, .slice a2 B.ns z2, .slice a3 B.D.n z3] 26)) (h : BookAt N w (.agg #[.slice a1 B.nv z1, .slice a2 B.ns z2, .slice a3 B.D.n z3]) B) (hG : GoodB B) (hc : CubeOk B c) (hns : B.ns ≤ 7) :
    Calls Try.prog 112 #[cubeV c, .pointer (some ⟨bk, 0, none⟩)] w fun e w' => e = .returned (.bool (sameZ B (cubeF B c))) ∧ Below w.heap.size w w' := by
  obtain ⟨ws, hws, HB, hsz, hblk⟩ := box1 w (.cells #[.int .i64 (c 0), .int .i64 (c 1), .int .i64 (c 2), .int .i64 (c 3), .int .i64 (c 4)] 94)
  have q0 := cell_blk hblk 0 rfl
  have q1 := cell_blk hblk 1 rfl
  have q2 := cell_blk hblk 2 rfl
  have q3 := cell_blk hblk 3 rfl
  have q4 := cell_blk hblk 4 rfl
  have hbk' := (HB.out.block bk (heap_lt hbk)).trans hbk
  have b0 := cell_blk hbk' 0 rfl
  have b1 := cell_blk hbk' 1 rfl
  have b2 := cell_blk hbk' 2 rfl
  have H := Lib.hid (oneEnd_any N _ B c ws (h.go HB.out) hG hc hns)
  clear h hblk hbk hbk'
  unfold cubeV at H ⊢
  go_enter Try.func112, Try.ntmps112
  go_wp2_with (go_at_call 113; refine H.out.mono ?_; rintro e w1 ⟨rfl, hb1⟩)
  go_ret
  exact ⟨rfl, fin HB.out hb1⟩

theorem partsC_any (N : Nat) (bk : Nat) (B : KB) (a1 a2 a3 : Option Addr) (z1 z2 z3 : Nat) (c : Nat → Int) (m : Nat) (w : World) (hbk : w.heap[bk]? = some (.cells #[.slice a1 B.nv z1, .slice a2 B.ns z2, .slice a3 B.D.n z3] 26)) (h : BookAt N w (.agg #[.slice a1 B.nv z1, .slice a2 B.ns z2, .slice a3 B.D.n z3]) B) (hG : GoodB B) (hm : m < B.nv) :
    Calls Try.prog 114 #[cubeV c, .int .i64 m, .pointer (some ⟨bk, 0, none⟩)] w fun e w' => ∃ v', e = .returned v' ∧ CubesIn w.heap.size w' v' (partQ B c m) (partC c m) ∧ Below w.heap.size w w' := by
  obtain ⟨ws, hws, HB, hsz, hblk⟩ := box1 w (.cells #[.int .i64 (c 0), .int .i64 (c 1), .int .i64 (c 2), .int .i64 (c 3), .int .i64 (c 4)] 94)
  have q0 := cell_blk hblk 0 rfl
  have q1 := cell_blk hblk 1 rfl
  have q2 := cell_blk hblk 2 rfl
  have q3 := cell_blk hblk 3 rfl
  have q4 := cell_blk hblk 4 rfl
  have hbkl := heap_lt hbk
  have hbk' := (HB.out.block bk hbkl).trans hbk
  have b0 := cell_blk hbk' 0 rfl
  have hm5 : m < 5 := by have := hG.nv; omega
  have hmi : (m : Int) < (B.nv : Int) := by omega
  have hV := hG.V m hm
  obtain ⟨q, hq⟩ : ∃ q : Nat, B.V m = q := ⟨(B.V m).toNat, by omega⟩
  obtain ⟨bv, ov, rfl, hbv, hv1⟩ := h.vals.cells (by omega)
  have hvs : bv < ws.heap.size := by have := h.1; have := HB.out.size; omega
  have hbs : bk < ws.heap.size := Nat.lt_of_lt_of_le hbkl HB.out.size
  have hvm := (HB.out.cell (p := ⟨bv, ov + m, none⟩) (by show bv < _; have := h.1; omega)).trans (hv1 m hm)
  rw [hq] at hvm hV
  have H : Hid (Calls Try.prog 115 #[cubeV c, .int .i64 m, .int .i64 q] ws.drew fun e w' => ∃ v', e = .returned v' ∧ CubesIn ws.heap.size w' v' (partQ B c m) (partC c m) ∧ Below ws.heap.size ws.drew w') := by
    unfold partQ partC
    rw [hq, Int.toNat_natCast]
    by_cases e : c m = -1
    · simp only [e, if_true]
      exact partsAll_any c m q ws.drew hm5 e (by omega) (by omega)
    · simp only [e, if_false]
      exact partsOne_any c m q ws.drew hm5 e
  have HB0 : Hid (Below ws.heap.size ws ws) := Below.refl _ _
  clear h hblk hbk hbk' hv1 hV hq
  unfold cubeV at H ⊢
  have S0d := old_of HB0.out.drew; have HB0d := S0d.2
  go_enter Try.func114, Try.ntmps114
  go_upto_region 1 with fail
  (try rw [hws])
  clear hws
  refine wp_region_held_drew (S := (fun w' => (∀ b o, b < ws.heap.size → w'.cell? ⟨b, o, none⟩ = ws.cell? ⟨b, o, none⟩) ∧ Hid (Below ws.heap.size ws w'))) (by kernel_rfl) S0d (fun hHeld => ?_)
  (refine wpAnyH_take (i := 0) (v := ?_) rfl (by kernel_rfl) (by kernel_rfl) (by kernel_rfl) (fun _ _ _ h => h) (Or.inl ⟨by rfl, ?_⟩) (by assumption) ?_; rotate_left; (focus (intro w hSw; (try dsimp only at hSw); go_simp; (try with_reducible rfl))); (try simp only [List.getElem_toArray, List.getElem_cons_zero, List.getElem_cons_succ, Act.put, List.setIfInBounds_toArray, List.set_cons_zero, List.set_cons_succ])); (refine wpAnyH_take (i := 1) (v := ?_) rfl (by kernel_rfl) (by kernel_rfl) (by kernel_rfl) (fun _ _ _ h => h) (Or.inl ⟨by rfl, ?_⟩) (by assumption) ?_; rotate_left; (focus (intro w hSw; (try dsimp only at hSw); go_simp; (try with_reducible rfl))); (try simp only [List.getElem_toArray, List.getElem_cons_zero, List.getElem_cons_succ, Act.put, List.setIfInBounds_toArray, List.set_cons_zero, List.set_cons_succ])); (refine wpAnyH_take (i := 2) (v := ?_) rfl (by kernel_rfl) (by kernel_rfl) (by kernel_rfl) (fun _ _ _ h => h) (Or.inl ⟨by rfl, ?_⟩) (by assumption) ?_; rotate_left; (focus (intro w hSw; (try dsimp only at hSw); go_simp; (try with_reducible rfl))); (try simp only [List.getElem_toArray, List.getElem_cons_zero, List.getElem_cons_succ, Act.put, List.setIfInBounds_toArray, List.set_cons_zero, List.set_cons_succ])); (refine wpAnyH_take (i := 3) (v := ?_) rfl (by kernel_rfl) (by kernel_rfl) (by kernel_rfl) (fun _ _ _ h => h) (Or.inl ⟨by rfl, ?_⟩) (by assumption) ?_; rotate_left; (focus (intro w hSw; (try dsimp only at hSw); go_simp; (try with_reducible rfl))); (try simp only [List.getElem_toArray, List.getElem_cons_zero, List.getElem_cons_succ, Act.put, List.setIfInBounds_toArray, List.set_cons_zero, List.set_cons_succ])); (refine wpAnyH_take (i := 4) (v := ?_) rfl (by kernel_rfl) (by kernel_rfl) (by kernel_rfl) (fun _ _ _ h => h) (Or.inl ⟨by rfl, ?_⟩) (by assumption) ?_; rotate_left; (focus (intro w hSw; (try dsimp only at hSw); go_simp; (try with_reducible rfl))); (try simp only [List.getElem_toArray, List.getElem_cons_zero, List.getElem_cons_succ, Act.put, List.setIfInBounds_toArray, List.set_cons_zero, List.set_cons_succ])); (refine wpAnyH_take (i := 5) (v := ?_) rfl (by kernel_rfl) (by kernel_rfl) (by kernel_rfl) (fun _ _ _ h => h) (Or.inl ⟨by rfl, ?_⟩) (by assumption) ?_; rotate_left; (focus (intro w hSw; (try dsimp only at hSw); go_simp; (try with_reducible rfl))); (try simp only [List.getElem_toArray, List.getElem_cons_zero, List.getElem_cons_succ, Act.put, List.setIfInBounds_toArray, List.set_cons_zero, List.set_cons_succ])); (refine wpAnyH_take (i := 6) (v := ?_) rfl (by kernel_rfl) (by kernel_rfl) (by kernel_rfl) (fun _ _ _ h => h) (Or.inl ⟨by rfl, ?_⟩) (by assumption) ?_; rotate_left; (focus (intro w hSw; (try dsimp only at hSw); go_simp; (try with_reducible rfl))); (try simp only [List.getElem_toArray, List.getElem_cons_zero, List.getElem_cons_succ, Act.put, List.setIfInBounds_toArray, List.set_cons_zero, List.set_cons_succ]))
  refine wpAnyH_ready (rs := [7]) (by kernel_rfl) (by simp) ?_; refine AllReadyH.cons rfl (fun K hK => ?_) AllReadyH.nil; go_simp
  go_at_call 115
  refine H.out.mono ?_
  rintro e w1 ⟨v1, rfl, hc1, hb1⟩
  have HB1 : Hid (Below ws.heap.size ws w1) := Lib.hid (HB0d.out.trans hb1)
  have S1 := old_of HB1.out
  refine hK.out _ _ S1 (fun hHeld => ?_); clear hK K; (try simp only [List.getElem_toArray, List.getElem_cons_zero, List.getElem_cons_succ, Act.put, List.setIfInBounds_toArray, List.set_cons_zero, List.set_cons_succ])
  (refine wpAnyH_take (i := 8) (v := ?_) rfl (by kernel_rfl) (by kernel_rfl) (by kernel_rfl) (fun _ _ _ h => h) (Or.inl ⟨by rfl, ?_⟩) (by assumption) ?_; rotate_left; (focus (intro w hSw; (try dsimp only at hSw); go_simp; (try with_reducible rfl))); (try simp only [List.getElem_toArray, List.getElem_cons_zero, List.getElem_cons_succ, Act.put, List.setIfInBounds_toArray, List.set_cons_zero, List.set_cons_succ]))
  refine wpAnyH_done (by kernel_rfl) ?_ _; clear hHeld
  go_wp2
  go_ret
  exact ⟨_, rfl, own_mono' hc1 HB.out.size, fin HB.out HB1.out⟩

theorem worstCube_any (N n : Nat) (v : Value) (c : Nat → Int) (f : Nat → Int) (w : World) (h : IntsAt N w v (n + 1) f) (hN : N ≤ w.heap.size) (hn : n ≤ 1000) (hb : -1 ≤ maxF f n ∧ maxF f n ≤ 1048576) :
    Calls Try.prog 116 #[cubeV c, v] w fun e w' => e = .returned (.int .i64 (1 + maxF f n)) ∧ Below w.heap.size w w' := by
  obtain ⟨ws, hws, HB, hsz, hblk⟩ := box1 w (.cells #[.int .i64 (c 0), .int .i64 (c 1), .int .i64 (c 2), .int .i64 (c 3), .int .i64 (c 4)] 94)
  have H := Lib.hid (max_any N n v f ws (h.go hN HB.out |>.mono (Below.refl _ _) (Nat.le_refl _)) hn)
  generalize maxF f n = t at *
  clear h hblk
  unfold cubeV
  go_enter Try.func116, Try.ntmps116
  go_wp2_with (go_at_call 122; (try rw [hws]); refine H.out.mono ?_; rintro e wq ⟨rfl, hwq⟩; rw [hwq]; clear hwq wq)
  go_ret
  exact ⟨ret_int (by omega), HB.out⟩

/-- the map b holds what has been found, in at most n turns -/
def FoundC (B : KB) (b n : Nat) (w : World) : Prop := ∃ D : DataW Unit, w.ownsMap Try.prog 94 (plainElem Try.prog 3) b n D ∧ ∀ c, CubeOk B c → has D (cubeKey c) = true → D.atKey (cubeKey c) (.lit (.int .i64 0)) = .lit (.int .i64 (costK5 B c))
theorem FoundC.mono {B : KB} {b n n' : Nat} {w : World} (h : FoundC B b n w) (hn : n ≤ n') : FoundC B b n' w := by
  obtain ⟨D, h1, h2⟩ := h; exact ⟨D, h1.mono hn, h2⟩
theorem FoundC.kept {B : KB} {b n : Nat} {w w' : World} (h : FoundC B b n w) {row : Option Nat} (hg : w.grownBy w' row) (hne : some b ≠ row) : FoundC B b n w' := by
  obtain ⟨D, h1, h2⟩ := h; exact ⟨D, h1.kept hg hne, h2⟩
theorem FoundC.below {B : KB} {b n : Nat} {w w' : World} (h : FoundC B b n w) (hb : Below w.heap.size w w') : FoundC B b n w' :=
  h.kept (row := none) ⟨hb.os, hb.tape, hb.output, hb.size, fun k hk _ => hb.block k hk⟩ (by simp)
theorem FoundC.lt {B : KB} {b n : Nat} {w : World} (h : FoundC B b n w) : b < w.heap.size := by
  obtain ⟨D, h1, _⟩ := h; exact h1.lt
theorem put_foundC {B : KB} (hG : GoodB B) {D : DataW Unit} (hm : IsMap D) {c : Nat → Int} (hc : CubeOk B c) (hD : ∀ c, CubeOk B c → has D (cubeKey c) = true → D.atKey (cubeKey c) (.lit (.int .i64 0)) = .lit (.int .i64 (costK5 B c))) :
    ∀ t, CubeOk B t → has (D.put (cubeKey c) (.lit (.int .i64 (costK5 B c)))) (cubeKey t) = true → (D.put (cubeKey c) (.lit (.int .i64 (costK5 B c)))).atKey (cubeKey t) (.lit (.int .i64 0)) = .lit (.int .i64 (costK5 B t)) := by
  intro t ht hh
  by_cases e : cubeKey t = cubeKey c
  · have := CubeOk.eq hG.nv ht hc (cubeKey_inj (ht.small hG) (hc.small hG) e)
    subst this
    exact atKey_put_same hm (cubeKey_lit (ht.small hG)) _ _
  · rw [has_put_other e] at hh
    rw [atKey_put_other e]
    exact hD t ht hh
theorem costK5_wf {B : KB} (hG : GoodB B) (c : Nat → Int) : (Lit.int .i64 (costK5 B c)).wf = true := by
  have h1 := costK5_bd hG.nv c
  have := hG.nv
  exact wf_small (by omega) (by omega)

/-- what least says of the cubes with at most f free marks -/
def SaysLC (B : KB) (bk b N f : Nat) : Prop := ∀ (c : Nat → Int) (n : Nat) (w : World), CubeOk B c → freeC B c ≤ f → SEnv B bk b N w → FoundC B b n w → n + 16 ^ f ≤ 1000000000000 →
    Calls Try.prog 78 #[seaC B.nv bk b, cubeV c] w fun e w' => e = .returned (.int .i64 (costK5 B c)) ∧ FoundC B b (n + 16 ^ f) w' ∧ w.grownBy w' (some b)
/-- what question says -/
def SaysQC (B : KB) (bk b N f : Nat) : Prop := ∀ (c : Nat → Int) (n : Nat) (w : World), CubeOk B c → sameZ B (cubeF B c) = false → freeC B c ≤ f + 1 → SEnv B bk b N w → FoundC B b n w → n + 15 * 16 ^ f ≤ 1000000000000 →
    Calls Try.prog 117 #[seaC B.nv bk b, cubeV c] w fun e w' => ∃ mk k, e = .returned (.tuple #[.int .i64 mk, .int .i64 k]) ∧ AskC B c B.nv mk k ∧ FoundC B b (n + 15 * 16 ^ f) w' ∧ w.grownBy w' (some b)

end Go.Proofs.Ytghimbggbgcgkaa
