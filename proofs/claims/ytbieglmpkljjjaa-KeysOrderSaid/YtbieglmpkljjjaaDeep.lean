/-
  Deep: deep of package keys.
-/
import Derived.Test.YtbieglmpkljjjaaComes
import Derived.Test.YtbieglmpkljjjaaIdle
import Derived.Test.YtbieglmpkljjjaaFr
namespace Go.Proofs.Ytbieglmpkljjjaa
open Go.RowKit Go.Shelf

attribute [local go_sem] Oper.semAt_some

/-- so many questions has the fruit x -/
def quest (B : KB) (x : Nat → Int) : Int := (walk B.D x).length - 1
def lowF (B : KB) (l : List (Nat → Int)) : Int := l.foldl (fun a x => min a (quest B x)) B.D.n
def highF (B : KB) (l : List (Nat → Int)) : Int := l.foldl (fun a x => max a (quest B x)) 0
theorem lowF_snoc (B : KB) (l : List (Nat → Int)) (x : Nat → Int) : lowF B (l ++ [x]) = min (lowF B l) (quest B x) := by simp [lowF]
theorem highF_snoc (B : KB) (l : List (Nat → Int)) (x : Nat → Int) : highF B (l ++ [x]) = max (highF B l) (quest B x) := by simp [highF]
def frs (ys : List (Nat × Nat × (Nat → Int))) : List (Nat → Int) := ys.map fun y => y.2.2

theorem two_st {W : World} {g : Nat} {a b x y : Value} {T : TypeId} (h : W.heap[g]? = some (.cells #[a, b] T)) : ((W.setCell ⟨g, 0, none⟩ x).setCell ⟨g, 1, none⟩ y).heap[g]? = some (.cells #[x, y] T) := by
  simp [World.setCell, Array.getElem?_modify, h]
theorem deep_result (tmps : Array Value) (W : World) (rc : Nat) (x y : Value) (ht : tmps[2]? = some (.pointer (some ⟨rc, 0, none⟩))) (h0 : W.cell? ⟨rc, 0, none⟩ = some x) (h1 : W.cell? ⟨rc, 1, none⟩ = some y) : (results Try.f72 tmps).run Try.prog W = .ok (.agg #[x, y]) W := by
  simp [results, Try.results72, go_sem, ht, h0, h1]

set_option maxRecDepth 100000 in
set_option maxHeartbeats 4000000 in
theorem deep_any (N : Nat) (v : Value) (B : KB) (w : World) (h : BookAt N w v B) (hG : GoodB B) :
    Calls Try.prog 72 #[v] w fun e w' => (∃ ys, FrAll B.nv anyC B.V ys ∧ e = .returned (.agg #[.int .i64 (lowF B (frs ys)), .int .i64 (highF B (frs ys))])) ∧ Below w.heap.size w w' := by
  obtain ⟨hN, a1, z1, a2, z2, a3, z3, rfl, _⟩ := id h
  have HB := Lib.hid h
  have HG := Lib.hid hG
  have hnn := hG.nn
  have hn1 := hG.D.n1
  have hnv1 := hG.nv1
  have hnv5 := hG.nv
  clear h hG
  refine (callsIn_wide (n := 9)).1 ?_
  refine callsIn_of_wp_marks Try.func72 rfl trivial ?_ rfl
  simp only [Try.ntmps72, List.size_toArray, List.length_cons, List.length_nil, Nat.reduceAdd, Nat.reduceSub, Array.replicate_succ, Array.replicate_zero, List.push_toArray, List.append_toArray, List.nil_append, List.cons_append]
  gi_wp2
  obtain ⟨ws, hws, HBs, hsz, k0, k1, k2⟩ := allocs3 w (.cells #[.slice a1 B.nv z1, .slice a2 B.ns z2, .slice a3 B.D.n z3] 26) (.cells #[.int .i64 0, .int .i64 0] 36) (.cells #[.int .i64 B.D.n, .int .i64 0] 36)
  rw [hws]
  clear hws
  have b0 := cell_blk k0 0 rfl
  have hlt : w.heap.size < ws.heap.size := by omega
  have HB0 : Hid (Below ws.heap.size ws ws) := Below.refl _ _
  have S0d := old_of HB0.out.drew; have HB0d := S0d.2
  refine calm (wpIn_wide.2 ?_)
  go_region_held3 (fun w' => (∀ b o, b < ws.heap.size → w'.cell? ⟨b, o, none⟩ = ws.cell? ⟨b, o, none⟩) ∧ Hid (Below ws.heap.size ws w')) (assumption) (first
    | (go_at_call 79; refine (allFruits_any _).mono ?_; rintro e w1 ⟨rfl, hb1⟩; have S1 := old_of (bel HB0d.out hb1); have HB1 := S1.2; clear hb1)
    | (go_at_call 108; refine (cfruits_any _ _ _ _ _).mono ?_; rintro e w' ⟨rfl, hw2⟩; rw [hw2]; clear hw2 w'; obtain ⟨w2, hw2, HBf, hszf, hszf1, hblk1, hblk2⟩ := box2 w1 (.cells #[.int .i64 (anyC 0), .int .i64 (anyC 1), .int .i64 (anyC 2), .int .i64 (anyC 3), .int .i64 (anyC 4)] 94) (.cells #[.slice a1 B.nv z1] 22); rw [hw2]; clear hw2; have hb2 := HBf.out; have S2 := old_of (bel HB1.out hb2); have HB2 := S2.2; clear hb2))
  have HB2 := S2.2
  clear S2 S0d
  unfold onlyN
  gi_wp2
  have HC1 : Hid (w2.heap[w1.heap.size]? = _) := hblk1
  have HC2 : Hid (w2.heap[w1.heap.size + 1]? = _) := hblk2
  have hw12 : ws.heap.size ≤ w1.heap.size := HB1.out.size
  have hw2s : w1.heap.size + 1 < w2.heap.size := hszf1
  have HBW : Hid (Below w.heap.size w w2) := fin HBs.out HB2.out
  have K0 : Hid (w2.heap[w.heap.size]? = _) := (HB2.out.block _ (by omega)).trans k0
  have K1 : Hid (w2.heap[w.heap.size + 1]? = _) := (HB2.out.block _ (by omega)).trans k1
  have K2 : Hid (w2.heap[w.heap.size + 1 + 1]? = _) := (HB2.out.block _ (by omega)).trans k2
  have hseq := fruits1_seq 8 (by omega) w1.heap.size (w1.heap.size + 1) N B.nv anyC B.V (fun k => k = w.heap.size + 1 + 1) (KeptC fun k => k = w.heap.size + 1 + 1) (fun _ _ h => h) w2 a1 z1 HC1.out (cell_blk HC2.out 0 rfl)
    (HB.out.go HBW.out).vals (Nat.le_trans hN HBW.out.size) (by omega) (by omega) (fun k hk => by omega) (fun k hk => by omega) hnv1 hnv5 HG.out.V (fun i hi => .inl rfl)
  have HSEQ := Lib.hid hseq
  clear hseq hblk1 hblk2 k0 k1 k2 b0
  have hgs : w.heap.size + 1 + 1 < w2.heap.size := by omega
  refine rangeL (w := w2) rfl (by omega) (gf := 138) (lb := #[.pointer (some ⟨w1.heap.size, 0, none⟩), .pointer (some ⟨w1.heap.size + 1, 0, none⟩)]) rfl trivial (enters_of Try.func138 (by kernel_rfl) rfl) HSEQ.out
    (fun h k => KeptC.trans h k) (fun W l o o' hl hW ho => ⟨by simp [World.putObj], fun k ob hk hc _ => (World.putObj_heap_other (by intro e; subst e; rw [hW] at hk; cases hk; rw [ho] at hc; cases hc)).trans hk⟩) (Below.refl _ _) (fun _ => rfl)
    (fun W A C k o hab hk hA _ => (hab.block k hk).trans hA)
    (BoxI w2 (w.heap.size + 1 + 1) (w.heap.size + 1 + 1) 36 (fun ys => #[.int .i64 (lowF B (frs ys)), .int .i64 (highF B (frs ys))])) (fun _ _ _ => False)
    (fun s => BoxI.rec' (by omega) (by omega) s) (fun _ _ _ _ _ _ h _ _ _ => h)
    (fun x A l o o' hs hl hA ho => ⟨hs.1, by simpa [World.putObj] using hs.2.1, hs.2.2.1.kept (World.putObj_heap_other (by
      intro e
      obtain ⟨ob, hob, hc⟩ := cells_of_cell (hs.2.2.1 0 (by omega)).1
      have hob' : A.heap[x.1]? = some ob := hob
      rw [e, hA] at hob'; cases hob'; rw [ho] at hc; cases hc)), hs.2.2.2⟩)
    (fun W s A C hW hs hk => ⟨(hk.block _ (by omega)).trans hs.1, hs.2.trans (hk.mono (by omega))⟩) (fun _ _ _ _ _ _ h _ => h) (fun s A o hs => BoxI.below hs (by have := hs.size; omega) (below_alloc (Nat.le_refl _) o))
    ⟨K2.out, Below.refl _ _⟩ (fun W => ⟨Nat.le_refl _, fun _ _ h _ _ => h⟩)
    (fun x => { tmps := #[.agg #[.slice a1 B.nv z1, .slice a2 B.ns z2, .slice a3 B.D.n z3], .pointer (some ⟨w.heap.size, 0, none⟩), .pointer (some ⟨w.heap.size + 1, 0, none⟩), .pointer (some ⟨w.heap.size + 1 + 1, 0, none⟩), .slice (some ⟨x.1, 0, none⟩) B.nv x.2.1, undef, .pointer (some ⟨w.heap.size, 2, none⟩), .slice a3 B.D.n z3, .int .i64 B.D.n, .agg #[.int .i64 B.D.n, .int .i64 0], cubeV anyC, .pointer (some ⟨w.heap.size, 0, none⟩), .slice a1 B.nv z1, .func (.func 138) #[] #[.pointer (some ⟨w1.heap.size, 0, none⟩), .pointer (some ⟨w1.heap.size + 1, 0, none⟩)], .slice (some ⟨x.1, 0, none⟩) B.nv x.2.1, undef, undef, undef, undef, undef, undef, undef, undef, undef, undef, undef, undef, undef, undef], defers := [] })
    ?assign ?body ?done ?stop
  case assign =>
    intro l x W K hK
    gi_wp2
    exact hK
  case body =>
    intro l pre x W hl hrec hs hg _
    obtain ⟨fg, fcap, fx⟩ := x
    obtain ⟨hg1, hg2, hg3, hg4⟩ := hg
    dsimp only at hg1 hg2 hg3 hg4 ⊢
    have hc0 := hs.cell 0 rfl
    have hc1 := hs.cell 1 rfl
    have hf0 := hs.free 0
    have hf1 := hs.free 1
    have hwW := hs.size
    have hbb := (hs.2.block w.heap.size (by omega)).trans K0.out
    have b0 := cell_blk hbb 0 rfl
    have b1 := cell_blk hbb 1 rfl
    have b2 := cell_blk hbb 2 rfl
    have HBKW : Hid (BookAt N W (.agg #[.slice a1 B.nv z1, .slice a2 B.ns z2, .slice a3 B.D.n z3]) B) := (HB.out.go HBW.out).mono (hs.2.mono (by omega)) (Nat.le_refl _) (by omega)
    have HIW : Hid (IntsAt W.heap.size W (.slice (some ⟨fg, 0, none⟩) B.nv fcap) B.nv fx) := ⟨_, fcap, rfl, by omega, fun _ => ⟨fg, 0, rfl, hg2, fun i hi => ⟨_, by rw [Nat.zero_add]; exact (hg3 i hi).1, rfl⟩⟩⟩
    have HQ := Lib.hid (questions_any N _ _ B B.nv fx W HBKW.out HIW.out HG.out (inC_goodX hg4))
    have HS := Lib.hid hs
    have hspan : w.heap.size + 1 + 1 < W.heap.size := by omega
    have HLO : Hid (lowF B (frs (pre ++ [(fg, fcap, fx)])) = min (lowF B (frs pre)) (quest B fx)) := by unfold Hid frs; rw [List.map_append]; exact lowF_snoc _ _ _
    have HHI : Hid (highF B (frs (pre ++ [(fg, fcap, fx)])) = max (highF B (frs pre)) (quest B fx)) := by unfold Hid frs; rw [List.map_append]; exact highF_snoc _ _ _
    obtain ⟨q, hq⟩ : ∃ q, quest B fx = q := ⟨_, rfl⟩
    have hq' : ((walk B.D fx).length : Int) - 1 = q := hq
    rw [hq'] at HQ
    rw [hq] at HLO HHI
    clear hq hq' hbb hs
    generalize hlo : lowF B (frs pre) = lo at *
    generalize hhi : highF B (frs pre) = hi at *
    clear hlo hhi
    gi_wp2_with (refine ⟨trivial, ?_⟩; gi_at_call 109; refine (CallsIn.inRound l (callsIn_wide.2 HQ.out)).mono ?_; rintro e W3 ⟨rfl, hb3⟩; have d0 := (hb3.cell (p := ⟨w.heap.size + 1 + 1, 0, none⟩) hspan).trans hc0; have d1 := (hb3.cell (p := ⟨w.heap.size + 1 + 1, 1, none⟩) hspan).trans hc1; have hf3 := free_blk ((hb3.block (w.heap.size + 1 + 1) hspan).trans HS.out.1); have hf30 := hf3 0; have hf31 := hf3 1; have HB3 := Lib.hid hb3; clear hb3 hf3)
    all_goals
      refine ⟨(keepsFrom_below _ HB3.out).trans (((KeepsOthers.setCell _ _ _).from _).trans ((KeepsOthers.setCell _ _ _).from _)), ⟨by simpa [World.setCell] using HB3.out.size, fun j o hj _ he => ((Below.heap_setCell _ _ _ _ he).trans (Below.heap_setCell _ _ _ _ he)).trans ((HB3.out.block j (heap_lt hj)).trans hj)⟩, ⟨(two_st ((HB3.out.block _ hspan).trans HS.out.1)).trans ?_, (HS.out.2.trans (HB3.out.mono (by omega))).trans (((Below.refl _ _).setCell (p := ⟨w.heap.size + 1 + 1, 0, none⟩) (Nat.le_refl _) _).trans ((Below.refl _ _).setCell (p := ⟨w.heap.size + 1 + 1, 1, none⟩) (Nat.le_refl _) _))⟩⟩
      dsimp only
      rw [HLO.out, HHI.out, Int.min_def, Int.max_def]
      by_cases z1 : lo = q
      · subst z1
        by_cases z2 : hi = lo
        · subst z2; split <;> (try split) <;> rfl
        · split <;> (try split) <;> first | rfl | (exfalso; omega)
      · by_cases z2 : hi = q
        · subst z2; split <;> (try split) <;> first | rfl | (exfalso; omega)
        · split <;> (try split) <;> first | rfl | (exfalso; omega)
  case done =>
    rintro D ys W hD hys hs hK
    have hc0 := hs.cell 0 rfl
    have hc1 := hs.cell 1 rfl
    have hrr := (hs.2.block (w.heap.size + 1) (by omega)).trans K1.out
    have r0 := cell_blk hrr 0 rfl
    have r1 := cell_blk hrr 1 rfl
    have f0 := free_blk hrr 0
    have f1 := free_blk hrr 1
    gi_wp2
    have hK' : ((W.setCell ⟨w.heap.size + 1, 0, none⟩ (.int .i64 (lowF B (frs ys)))).setCell ⟨w.heap.size + 1, 1, none⟩ (.int .i64 (highF B (frs ys)))).heap[D]? = some (.deferred (some [])) :=
      ((Below.heap_setCell _ _ _ _ (by show D ≠ w.heap.size + 1; omega)).trans (Below.heap_setCell _ _ _ _ (by show D ≠ w.heap.size + 1; omega))).trans hK
    refine ⟨by simp, .inl ⟨_, _, rfl, run_takeDeferred hK', ?_⟩⟩
    have hh := (World.putObj_heap_other (w := (W.setCell ⟨w.heap.size + 1, 0, none⟩ (.int .i64 (lowF B (frs ys)))).setCell ⟨w.heap.size + 1, 1, none⟩ (.int .i64 (highF B (frs ys)))) (o := .deferred none) (show w.heap.size + 1 ≠ D by omega)).trans (two_st (x := .int .i64 (lowF B (frs ys))) (y := .int .i64 (highF B (frs ys))) hrr)
    exact ⟨_, deep_result _ _ (w.heap.size + 1) _ _ rfl (cell_blk hh 0 rfl) (cell_blk hh 1 rfl), ⟨ys, hys, rfl⟩,
      (((HBW.out.trans (hs.2.mono (by omega))).trans ((Below.refl _ _).setCell (p := ⟨w.heap.size + 1, 0, none⟩) (Nat.le_succ _) _)).trans ((Below.refl _ _).setCell (p := ⟨w.heap.size + 1, 1, none⟩) (Nat.le_succ _) _)).trans (belowK_b (w := w) (Nat.le_refl _) _ D _ _ (by omega) hK' rfl rfl)⟩
  case stop =>
    rintro D c pre W hD _ h _
    exact h.elim

end Go.Proofs.Ytbieglmpkljjjaa

namespace Go.Proofs.Ytbieglmpkljjjaa
open Go.RowKit

theorem foldmin {α : Type} (q : α → Int) : ∀ (l : List α) (a : Int), (l.foldl (fun a x => min a (q x)) a ≤ a ∧ ∀ x ∈ l, l.foldl (fun a x => min a (q x)) a ≤ q x) ∧ ∀ m, m ≤ a → (∀ x ∈ l, m ≤ q x) → m ≤ l.foldl (fun a x => min a (q x)) a
  | [], a => ⟨⟨Int.le_refl _, fun x hx => by cases hx⟩, fun m hm _ => hm⟩
  | y :: l, a => by
    obtain ⟨⟨h1, h2⟩, h3⟩ := foldmin q l (min a (q y))
    simp only [List.foldl_cons]
    refine ⟨⟨by omega, fun x hx => ?_⟩, fun m hm hx => h3 m (by have := hx y (by simp); omega) fun x h => hx x (by simp [h])⟩
    rcases List.mem_cons.1 hx with rfl | hx
    · omega
    · exact h2 x hx
theorem foldmax {α : Type} (q : α → Int) : ∀ (l : List α) (a : Int), (a ≤ l.foldl (fun a x => max a (q x)) a ∧ ∀ x ∈ l, q x ≤ l.foldl (fun a x => max a (q x)) a) ∧ ∀ m, a ≤ m → (∀ x ∈ l, q x ≤ m) → l.foldl (fun a x => max a (q x)) a ≤ m
  | [], a => ⟨⟨Int.le_refl _, fun x hx => by cases hx⟩, fun m hm _ => hm⟩
  | y :: l, a => by
    obtain ⟨⟨h1, h2⟩, h3⟩ := foldmax q l (max a (q y))
    simp only [List.foldl_cons]
    refine ⟨⟨by omega, fun x hx => ?_⟩, fun m hm hx => h3 m (by have := hx y (by simp); omega) fun x h => hx x (by simp [h])⟩
    rcases List.mem_cons.1 hx with rfl | hx
    · omega
    · exact h2 x hx

/-- the same questions in two lists of fruits -/
def SameQ (B : KB) (l l' : List (Nat → Int)) : Prop := ∀ x ∈ l, ∃ x' ∈ l', quest B x' = quest B x
theorem lowF_same {B : KB} {l l' : List (Nat → Int)} (h : SameQ B l l') (h' : SameQ B l' l) : lowF B l = lowF B l' := by
  unfold lowF
  obtain ⟨⟨a1, a2⟩, a3⟩ := foldmin (quest B) l B.D.n
  obtain ⟨⟨b1, b2⟩, b3⟩ := foldmin (quest B) l' B.D.n
  refine Int.le_antisymm (b3 _ a1 fun x hx => ?_) (a3 _ b1 fun x hx => ?_)
  · obtain ⟨y, hy, e⟩ := h' x hx; rw [← e]; exact a2 y hy
  · obtain ⟨y, hy, e⟩ := h x hx; rw [← e]; exact b2 y hy
theorem highF_same {B : KB} {l l' : List (Nat → Int)} (h : SameQ B l l') (h' : SameQ B l' l) : highF B l = highF B l' := by
  unfold highF
  obtain ⟨⟨a1, a2⟩, a3⟩ := foldmax (quest B) l 0
  obtain ⟨⟨b1, b2⟩, b3⟩ := foldmax (quest B) l' 0
  refine Int.le_antisymm (a3 _ b1 fun x hx => ?_) (b3 _ a1 fun x hx => ?_)
  · obtain ⟨y, hy, e⟩ := h x hx; rw [← e]; exact b2 y hy
  · obtain ⟨y, hy, e⟩ := h' x hx; rw [← e]; exact a2 y hy

/-- all fruits of a book -/
def allX (B : KB) : List (Nat → Int) := (allF B).map atL
theorem sameQ_all {B : KB} (hG : GoodB B) {ys : List (Nat × Nat × (Nat → Int))} (h : FrAll B.nv anyC B.V ys) : SameQ B (frs ys) (allX B) ∧ SameQ B (allX B) (frs ys) := by
  constructor
  · intro x hx
    obtain ⟨y, hy, rfl⟩ := List.mem_map.1 hx
    have hin := h.1 y hy
    have hat : ∀ i, i < B.nv → atL (fromF B.nv y.2.2) i = y.2.2 i := fun i hi => by simp [atL, fromF, hi]
    have hin' : InC anyC B.V B.nv (atL (fromF B.nv y.2.2)) := fun i hi => by rw [hat i hi]; exact hin i hi
    refine ⟨_, List.mem_map.2 ⟨_, (allF_mem B _).2 ⟨fromF_len _ _, hin'⟩, rfl⟩, ?_⟩
    unfold quest; rw [walk_congr hG.D (inC_goodX hin') hat]
  · intro x hx
    obtain ⟨z, hz, rfl⟩ := List.mem_map.1 hx
    obtain ⟨_, hin⟩ := (allF_mem B z).1 hz
    obtain ⟨y, hy, he⟩ := h.2 _ hin
    refine ⟨y.2.2, List.mem_map.2 ⟨y, hy, rfl⟩, ?_⟩
    unfold quest; rw [walk_congr hG.D (inC_goodX hin) (fun i hi => (he i hi).symm)]

/-- what Deep says -/
def eDeep (B : KB) : (Int × Int) × Int := if okKB B then ((lowF B (allX B), highF B (allX B)), 0) else ((0, 0), 20)

theorem deep_all (N : Nat) (v : Value) (B : KB) (w : World) (h : BookAt N w v B) (hG : GoodB B) :
    Calls Try.prog 72 #[v] w fun e w' => e = .returned (.agg #[.int .i64 (lowF B (allX B)), .int .i64 (highF B (allX B))]) ∧ Below w.heap.size w w' := by
  refine (deep_any N v B w h hG).mono ?_
  rintro e w' ⟨⟨ys, hys, rfl⟩, hb⟩
  obtain ⟨h1, h2⟩ := sameQ_all hG hys
  rw [lowF_same h1 h2, highF_same h1 h2]
  exact ⟨rfl, hb⟩

end Go.Proofs.Ytbieglmpkljjjaa

namespace Go.Proofs.Ytbieglmpkljjjaa
open Go.RowKit

theorem kdeep_result (tmps : Array Value) (W : World) (rc : Nat) (x y z : Value) (ht : tmps[2]? = some (.pointer (some ⟨rc, 0, none⟩))) (h3 : tmps[3]? = some z) (h0 : W.cell? ⟨rc, 0, none⟩ = some x) (h1 : W.cell? ⟨rc, 1, none⟩ = some y) : (results Try.f20 tmps).run Try.prog W = .ok (.tuple #[.agg #[x, y], z]) W := by
  simp [results, Try.results20, go_sem, ht, h0, h1, h3]

set_option maxRecDepth 100000 in
set_option maxHeartbeats 1600000 in
theorem kDeep_any (N : Nat) (v : Value) (B : KB) (w : World) (h : BookAt N w v B) :
    Calls Try.prog 20 #[v] w fun e w' => e = .returned (.tuple #[.agg #[.int .i64 (eDeep B).1.1, .int .i64 (eDeep B).1.2], .int .i64 (eDeep B).2]) ∧ Below w.heap.size w w' := by
  obtain ⟨hN, a1, z1, a2, z2, a3, z3, rfl, _⟩ := id h
  obtain ⟨ws, hws, HBs, hsz, hsz1, k0, k1⟩ := box2 w (.cells #[.slice a1 B.nv z1, .slice a2 B.ns z2, .slice a3 B.D.n z3] 26) (.cells #[.int .i64 0, .int .i64 0] 36)
  have HBK := Lib.hid (h.go HBs.out)
  have HB0 : Hid (Below ws.heap.size ws ws) := Below.refl _ _
  have q0 := cell_blk k0 0 rfl
  have q1 := cell_blk k0 1 rfl
  have q2 := cell_blk k0 2 rfl
  have hwr := heap_lt k1
  clear h
  cases hv : okKB B with
  | false =>
    have HA : Hid (chk B = 20) := chk_no hv
    have HE : Hid (eDeep B = ((0, 0), 20)) := by unfold Hid eDeep; rw [hv]; rfl
    clear hv
    go_enter Try.func20, Try.ntmps20
    go_wp2_with (go_at_call 46; refine (kCheck_any N _ B _ (HBK.out.go HB0.out)).mono ?_; rintro e w1 ⟨rfl, hb1⟩; rw [HA.out]; have hrr := (hb1.block (w.heap.size + 1) hsz1).trans k1; have r0 := cell_blk hrr 0 rfl; have r1 := cell_blk hrr 1 rfl; have f0 := free_blk hrr 0; have f1 := free_blk hrr 1; (try clear c0); have HB1 := Lib.hid (bel HB0.out hb1); have c1 := (old_of HB1.out).1; clear hb1)
    have hh := two_st (x := .int .i64 0) (y := .int .i64 0) hrr
    refine bodyPost_ret (kdeep_result _ _ (w.heap.size + 1) _ _ _ rfl rfl (cell_blk hh 0 rfl) (cell_blk hh 1 rfl)) rfl ⟨by rw [HE.out]; rfl, (fin HBs.out HB1.out).trans (((Below.refl _ _).setCell (p := ⟨w.heap.size + 1, 0, none⟩) (Nat.le_succ _) _).trans ((Below.refl _ _).setCell (p := ⟨w.heap.size + 1, 1, none⟩) (Nat.le_succ _) _))⟩
  | true =>
    have HA : Hid (chk B = 0) := chk_yes hv
    have HE : Hid (eDeep B = ((lowF B (allX B), highF B (allX B)), 0)) := by unfold Hid eDeep; rw [hv]; rfl
    have s0 := cell_blk k1 0 rfl
    have s1 := cell_blk k1 1 rfl
    have HG := Lib.hid (goodB hv)
    clear hv
    go_enter Try.func20, Try.ntmps20
    go_wp2_with (first
      | (go_at_call 46; refine (kCheck_any N _ B _ (HBK.out.go HB0.out)).mono ?_; rintro e w1 ⟨rfl, hb1⟩; rw [HA.out]; (try clear c0); have HB1 := Lib.hid (bel HB0.out hb1); have c1 := (old_of HB1.out).1; clear hb1)
      | (go_at_call 72; refine (deep_all N _ B _ (HBK.out.go HB1.out) HG.out).mono ?_; rintro e w2 ⟨rfl, hb2⟩; (try clear c1); have HB2 := Lib.hid (bel HB1.out hb2); have c2 := (old_of HB2.out).1; clear hb2; have hrr := (HB2.out.block (w.heap.size + 1) hsz1).trans k1; have r0 := cell_blk hrr 0 rfl; have r1 := cell_blk hrr 1 rfl; have f0 := free_blk hrr 0; have f1 := free_blk hrr 1))
    have hh := two_st (x := .int .i64 (lowF B (allX B))) (y := .int .i64 (highF B (allX B))) hrr
    refine bodyPost_ret (kdeep_result _ _ (w.heap.size + 1) _ _ _ rfl rfl (cell_blk hh 0 rfl) (cell_blk hh 1 rfl)) rfl ⟨by rw [HE.out]; rfl, (fin HBs.out HB2.out).trans (((Below.refl _ _).setCell (p := ⟨w.heap.size + 1, 0, none⟩) (Nat.le_succ _) _).trans ((Below.refl _ _).setCell (p := ⟨w.heap.size + 1, 1, none⟩) (Nat.le_succ _) _))⟩

end Go.Proofs.Ytbieglmpkljjjaa

namespace Go.Proofs.Ytbieglmpkljjjaa
open Go.RowKit

def lowX (B : KB) (q : Int) (l : List (Nat → Int)) : Int := l.foldl (fun a x => min a (quest B x)) q
def highX (B : KB) (q : Int) (l : List (Nat → Int)) : Int := l.foldl (fun a x => max a (quest B x)) q
def firstX (B : KB) (f : Nat) : List (Nat → Int) := ((allF B).take f).map atL
theorem firstX_snoc {B : KB} {f : Nat} {z : List Int} (hz : (allF B)[f]? = some z) : firstX B (f + 1) = firstX B f ++ [atL z] := by unfold firstX; rw [List.take_add_one, hz, List.map_append]; rfl
theorem lowX_snoc (B : KB) (q : Int) (l : List (Nat → Int)) (x : Nat → Int) : lowX B q (l ++ [x]) = min (lowX B q l) (quest B x) := by simp [lowX]
theorem highX_snoc (B : KB) (q : Int) (l : List (Nat → Int)) (x : Nat → Int) : highX B q (l ++ [x]) = max (highX B q l) (quest B x) := by simp [highX]
theorem firstX_all (B : KB) : firstX B (allF B).length = allX B := by unfold firstX allX; rw [List.take_length]
theorem quest_bd {B : KB} (hG : GoodB B) {x : Nat → Int} (hx : x ∈ allX B) : 0 ≤ quest B x ∧ quest B x < B.D.n := by
  obtain ⟨z, hz, rfl⟩ := List.mem_map.1 hx
  obtain ⟨_, hin⟩ := (allF_mem B z).1 hz
  have h1 := walk_len hG.D (inC_goodX hin)
  obtain ⟨pre, k, e, _⟩ := walk_last hG.D (inC_goodX hin)
  have h2 : 1 ≤ (walk B.D (atL z)).length := by rw [e]; simp
  unfold quest; omega
theorem lowX_all {B : KB} (hG : GoodB B) {x : Nat → Int} (hx : x ∈ allX B) : lowX B (quest B x) (allX B) = lowF B (allX B) := by
  unfold lowX lowF
  obtain ⟨⟨a1, a2⟩, a3⟩ := foldmin (quest B) (allX B) (quest B x)
  obtain ⟨⟨b1, b2⟩, b3⟩ := foldmin (quest B) (allX B) B.D.n
  have := quest_bd hG hx
  exact Int.le_antisymm (b3 _ (by omega) a2) (a3 _ (b2 x hx) b2)
theorem highX_all {B : KB} (hG : GoodB B) {x : Nat → Int} (hx : x ∈ allX B) : highX B (quest B x) (allX B) = highF B (allX B) := by
  unfold highX highF
  obtain ⟨⟨a1, a2⟩, a3⟩ := foldmax (quest B) (allX B) (quest B x)
  obtain ⟨⟨b1, b2⟩, b3⟩ := foldmax (quest B) (allX B) 0
  have := quest_bd hG hx
  exact Int.le_antisymm (a3 _ (b2 x hx) b2) (b3 _ (by omega) a2)

theorem rdeep_result (tmps : Array Value) (W : World) (rc : Nat) (x y z : Value) (ht : tmps[2]? = some (.pointer (some ⟨rc, 0, none⟩))) (h3 : tmps[3]? = some z) (h0 : W.cell? ⟨rc, 0, none⟩ = some x) (h1 : W.cell? ⟨rc, 1, none⟩ = some y) : (results Try.f54 tmps).run Try.prog W = .ok (.tuple #[.agg #[x, y], z]) W := by
  simp [results, Try.results54, go_sem, ht, h0, h1, h3]

set_option maxRecDepth 100000 in
set_option maxHeartbeats 3200000 in
theorem rDeep_any (N : Nat) (v : Value) (B : KB) (w : World) (h : BookAt N w v B) :
    Calls Try.prog 54 #[v] w fun e w' => e = .returned (.tuple #[.agg #[.int .i64 (eDeep B).1.1, .int .i64 (eDeep B).1.2], .int .i64 (eDeep B).2]) ∧ Below w.heap.size w w' := by
  obtain ⟨hN, a1, z1, a2, z2, a3, z3, rfl, _⟩ := id h
  obtain ⟨ws, hws, HBs, hsz, hsz1, k0, k1⟩ := box2 w (.cells #[.slice a1 B.nv z1, .slice a2 B.ns z2, .slice a3 B.D.n z3] 26) (.cells #[.int .i64 0, .int .i64 0] 36)
  have HBK := Lib.hid (h.go HBs.out)
  have HB0 : Hid (Below ws.heap.size ws ws) := Below.refl _ _
  have HNS : Hid (N ≤ ws.heap.size) := HBK.out.1
  have q0 := cell_blk k0 0 rfl
  have q1 := cell_blk k0 1 rfl
  have q2 := cell_blk k0 2 rfl
  have s0 := cell_blk k1 0 rfl
  have s1 := cell_blk k1 1 rfl
  clear h
  cases hv : okKB B with
  | false =>
    have HA : Hid (chk B = 20) := chk_no hv
    have HE : Hid (eDeep B = ((0, 0), 20)) := by unfold Hid eDeep; rw [hv]; rfl
    clear hv
    go_enter Try.func54, Try.ntmps54
    go_wp2_with (go_at_call 47; refine (rCheck_any N _ B _ (HBK.out.go HB0.out)).mono ?_; rintro e w1 ⟨rfl, hb1⟩; rw [HA.out]; have hrr := (hb1.block (w.heap.size + 1) hsz1).trans k1; have r0 := cell_blk hrr 0 rfl; have r1 := cell_blk hrr 1 rfl; have f0 := free_blk hrr 0; have f1 := free_blk hrr 1; (try clear c0); have HB1 := Lib.hid (bel HB0.out hb1); have c1 := (old_of HB1.out).1; clear hb1)
    have hh := two_st (x := .int .i64 0) (y := .int .i64 0) hrr
    refine bodyPost_ret (rdeep_result _ _ (w.heap.size + 1) _ _ _ rfl rfl (cell_blk hh 0 rfl) (cell_blk hh 1 rfl)) rfl ⟨by rw [HE.out]; rfl, (fin HBs.out HB1.out).trans (((Below.refl _ _).setCell (p := ⟨w.heap.size + 1, 0, none⟩) (Nat.le_succ _) _).trans ((Below.refl _ _).setCell (p := ⟨w.heap.size + 1, 1, none⟩) (Nat.le_succ _) _))⟩
  | true =>
    have HA : Hid (chk B = 0) := chk_yes hv
    have HE : Hid (eDeep B = ((lowF B (allX B), highF B (allX B)), 0)) := by unfold Hid eDeep; rw [hv]; rfl
    have HG := Lib.hid (goodB hv)
    have hnn := (goodB hv).nn
    have hn1 := (goodB hv).D.n1
    have HF : Hid (0 < (allF B).length ∧ (allF B).length ≤ 243) := by
      have hG := goodB hv
      refine ⟨frl_pos B.V B.nv (fun i hi => (hG.V i hi).1) B.nv [] (by simp), ?_⟩
      have h1 := frl_le B.V B.nv (fun i hi => (hG.V i hi).2) B.nv [] (by simp)
      exact Nat.le_trans h1 (Nat.pow_le_pow_right (n := 3) (by omega) hG.nv)
    clear hv
    go_enter Try.func54, Try.ntmps54
    go_wp2_with (first
      | (go_at_call 47; refine (rCheck_any N _ B _ (HBK.out.go HB0.out)).mono ?_; rintro e w1 ⟨rfl, hb1⟩; rw [HA.out]; (try clear c0); have HB1 := Lib.hid (bel HB0.out hb1); have c1 := (old_of HB1.out).1; clear hb1)
      | (go_at_call 29; refine (rFruits_any N _ B HG.out _ (HBK.out.go HB1.out)).mono ?_; rintro e w2 ⟨vF, rfl, hrows, hb2⟩; have HRO := Lib.hid hrows; clear hrows; (try clear c1); have HB2 := Lib.hid (bel HB1.out hb2); have c2 := (old_of HB2.out).1; clear hb2; obtain ⟨gF, cF, hvF, hgFs⟩ := frRows_form HRO.out HF.out.1; subst hvF))
    clear hws
    obtain ⟨F, hFF⟩ : ∃ F, (allF B).length = F := ⟨_, rfl⟩
    have HFF := Lib.hid hFF
    have hF243 : F ≤ 243 := by rw [← hFF]; exact HF.out.2
    have hF0 : 0 < F := by rw [← hFF]; exact HF.out.1
    simp only [hFF]
    clear hFF
    have HAT : Hid (∀ (i : Nat) (z : List Int), (allF B)[i]? = some z → ∃ gr cr, w2.cell? ⟨gF, i, none⟩ = some (.slice (some ⟨gr, 0, none⟩) B.nv cr) ∧ GoodX B.nv B.V B.nv (atL z) ∧ ∀ wk : World, Below w2.heap.size w2 wk → IntsAt w2.heap.size wk (.slice (some ⟨gr, 0, none⟩) B.nv cr) B.nv (atL z) ∧ NodesAt w2.heap.size wk (.slice a3 B.D.n z3) B.D) := fun i z hz => by
      obtain ⟨gr, cr, hc1, _, _, hrv, _⟩ := frRows_at HRO.out hz
      obtain ⟨hzn, hin⟩ := (allF_mem B z).1 (List.mem_of_getElem? hz)
      rw [hzn] at hc1
      refine ⟨gr, cr, hc1, inC_goodX hin, fun wk hb => ⟨?_, ((HBK.out.go HB2.out).raise (HBK.out.go HB2.out).1 (Nat.le_refl _)).nodes.mono hb (Nat.le_refl _)⟩⟩
      have hq := hrv.ints (by have := HG.out.nv; omega)
      rw [hzn] at hq
      exact hq.mono hb (Nat.le_refl _)
    obtain ⟨z0, hz0⟩ : ∃ z, (allF B)[0]? = some z := ⟨_, List.getElem?_eq_getElem (by rw [HFF.out]; exact hF0)⟩
    obtain ⟨gr, cr, hc0, hgx, hin0⟩ := HAT.out 0 z0 hz0
    have HGX0 := Lib.hid hgx
    have HIN0 := Lib.hid hin0
    have HM0 : Hid (atL z0 ∈ allX B) := List.mem_map.2 ⟨z0, List.mem_of_getElem? hz0, rfl⟩
    have hF0i : (0 : Int) < (F : Int) := by omega
    have HBr : Hid (Below w2.heap.size w2 w2) := Below.refl _ _
    have hszw2 : w.heap.size < w2.heap.size := Nat.lt_of_lt_of_le hsz HB2.out.size
    clear hgx hin0 hz0
    have hw0 : (walk B.D (atL z0)).length ≤ B.D.n := walk_len HG.out.D HGX0.out
    have HQ0 : Hid (((ints (walk B.D (atL z0))).length : Int) - 1 = quest B (atL z0)) := by unfold Hid quest; rw [ints_len]
    have Srd := old_of HBr.out.drew; have HBrd := Srd.2
    go_wp2
    go_region_held3 (fun w' => (∀ b o, b < w2.heap.size → w'.cell? ⟨b, o, none⟩ = w2.cell? ⟨b, o, none⟩) ∧ Hid (Below w2.heap.size w2 w')) (assumption) (first
      | (go_at_call 23; refine (walkOf_any w2.heap.size _ _ B.D B.nv B.V B.ns B.nv (atL z0) _ (HIN0.out _ HBrd.out).2 (HIN0.out _ HBrd.out).1 HBrd.out.size HG.out.D HGX0.out (by omega)).mono ?_; rintro e w3 ⟨v3, rfl, ho3, hb3⟩; obtain ⟨ao, co, rfl⟩ := own_form ho3; rw [ints_len]; clear ho3; have S3 := old_of (bel HBrd.out hb3); have HB3 := S3.2; clear hb3))
    have HB3 := S3.2
    have hwrap0 : IntKind.i64.wrap (((walk B.D (atL z0)).length : Int) - 1) = quest B (atL z0) := by rw [IntWalk.i64_in _ (by omega)]; rfl
    rw [hwrap0]
    clear S3 Srd hwrap0
    have HB23 := Lib.hid (bel HB2.out HB3.out)
    have HLA := Lib.hid (lowX_all HG.out HM0.out)
    have HHA := Lib.hid (highX_all HG.out HM0.out)
    generalize quest B (atL z0) = q at *
    obtain ⟨w4, hw4, HB4, hsz4, kb4⟩ := box1 w3 (.cells #[.int .i64 q, .int .i64 q] 36)
    have HB24 := Lib.hid (bel HB23.out HB4.out)
    have HKB := Lib.hid kb4
    have HBw4 : Hid (Below w2.heap.size w2 w4) := Lib.hid (bel HB3.out HB4.out)
    have hs24 := HBw4.out.size
    have hs23 := HB3.out.size
    have HBi : Hid (Below w3.heap.size w4 w4) := Below.refl _ _
    (try clear c2)
    clear kb4
    go_wp2
    (try rw [hw4])
    clear hw4
    go_loopw [8] (fun i wr => ∃ f : Nat, f ≤ F ∧ i = .int .i64 f ∧ Hid (wr.heap[w3.heap.size]? = some (.cells #[.int .i64 (lowX B q (firstX B f)), .int .i64 (highX B q (firstX B f))] 36)) ∧ Hid (Below w3.heap.size w4 wr)) (fun i _ => F - (intOf i).toNat)
    case atStart => exact ⟨0, Nat.zero_le _, rfl, HKB.out, HBi⟩
    case round =>
      obtain ⟨f, hf, rfl, hsp, HB5⟩ := hrel
      have HB25 : Hid (Below w2.heap.size w2 wr) := Lib.hid (HBw4.out.trans (HB5.out.mono hs23))
      have HBs5 := Lib.hid (bel HB2.out HB25.out)
      have c5 := (old_of HBs5.out).1
      have hsz5 := Nat.lt_of_lt_of_le hsz HBs5.out.size
      have p0 := cell_blk hsp.out 0 rfl
      have p1 := cell_blk hsp.out 1 rfl
      have fp := free_blk hsp.out
      have fp0 := fp 0
      have fp1 := fp 1
      clear fp
      by_cases hfF : f < F
      · obtain ⟨z, hz⟩ : ∃ z, (allF B)[f]? = some z := ⟨_, List.getElem?_eq_getElem (by rw [HFF.out]; exact hfF)⟩
        obtain ⟨gr2, cr2, hcf, hgx, hin⟩ := HAT.out f z hz
        have hcf' := (HB25.out.cell (p := ⟨gF, f, none⟩) hgFs).trans hcf
        have hfi : (f : Int) < (F : Int) := by omega
        have HIW : Hid (∀ wk : World, Below wr.heap.size wr wk → IntsAt wr.heap.size wk (.slice (some ⟨gr2, 0, none⟩) B.nv cr2) B.nv (atL z) ∧ NodesAt wr.heap.size wk (.slice a3 B.D.n z3) B.D) := fun wk hb =>
          ⟨(hin wr HB25.out).1.mono (hb.mono HB25.out.size) HB25.out.size, (hin wr HB25.out).2.mono (hb.mono HB25.out.size) HB25.out.size⟩
        have HGX := Lib.hid hgx
        have hwl : (walk B.D (atL z)).length ≤ B.D.n := walk_len HG.out.D hgx
        have hwrap : IntKind.i64.wrap (((walk B.D (atL z)).length : Int) - 1) = quest B (atL z) := by rw [IntWalk.i64_in _ (by omega)]; rfl
        have HLO : Hid (lowX B q (firstX B (f + 1)) = min (lowX B q (firstX B f)) (quest B (atL z))) := by unfold Hid; rw [firstX_snoc hz, lowX_snoc]
        have HHI : Hid (highX B q (firstX B (f + 1)) = max (highX B q (firstX B f)) (quest B (atL z))) := by unfold Hid; rw [firstX_snoc hz, highX_snoc]
        have HWR := Lib.hid hwrap
        have HBr : Hid (Below wr.heap.size wr wr) := Below.refl _ _
        have hgFr : gF < wr.heap.size := Nat.lt_of_lt_of_le hgFs HB25.out.size
        have hspan : w3.heap.size < wr.heap.size := heap_lt hsp.out
        clear hgx hin hcf hz hwrap
        have Srd := old_of HBr.out.drew; have HBrd := Srd.2
        generalize lowX B q (firstX B f) = lo at *
        generalize highX B q (firstX B f) = hi at *
        go_wp2
        go_region_held3 (fun w' => (∀ b o, b < wr.heap.size → w'.cell? ⟨b, o, none⟩ = wr.cell? ⟨b, o, none⟩) ∧ Hid (Below wr.heap.size wr w')) (assumption) (first
          | (go_at_call 23; refine (walkOf_any wr.heap.size _ _ B.D B.nv B.V B.ns B.nv (atL z) _ (HIW.out _ HBrd.out).2 (HIW.out _ HBrd.out).1 HBrd.out.size HG.out.D HGX.out (by omega)).mono ?_; rintro e w6 ⟨v6, rfl, ho6, hb6⟩; obtain ⟨ao6, co6, rfl⟩ := own_form ho6; rw [ints_len]; clear ho6; have S6 := old_of (bel HBrd.out hb6); have HB6 := S6.2; clear hb6))
        have HB6 := S6.2
        rw [HWR.out]
        clear S6 Srd c5
        have d0 := (HB6.out.cell (p := ⟨w3.heap.size, 0, none⟩) hspan).trans p0
        have d1 := (HB6.out.cell (p := ⟨w3.heap.size, 1, none⟩) hspan).trans p1
        have hh6 := (HB6.out.block w3.heap.size hspan).trans hsp.out
        have e0 := free_blk hh6 0
        have e1 := free_blk hh6 1
        have HH6 := Lib.hid hh6
        have HB7 : Hid (Below w3.heap.size w4 w6) := Lib.hid (HB5.out.trans (HB6.out.mono (Nat.le_of_lt hspan)))
        clear hh6
        generalize quest B (atL z) = x at *
        by_cases m1 : x < lo <;> by_cases m2 : hi < x
        all_goals
          have M1 := Lib.hid m1
          have M2 := Lib.hid m2
          go_wp2
          go_roundw
          case rel =>
            refine ⟨f + 1, by omega, by go_num, (two_st HH6.out).trans ?_, HB7.out.trans (((Below.refl _ _).setCell (p := ⟨w3.heap.size, 0, none⟩) (Nat.le_refl _) _).trans ((Below.refl _ _).setCell (p := ⟨w3.heap.size, 1, none⟩) (Nat.le_refl _) _))⟩
            have m1' := M1.out
            have m2' := M2.out
            rw [HLO.out, HHI.out, Int.min_def, Int.max_def]
            by_cases z1 : lo = x
            · subst z1
              by_cases z2 : hi = lo
              · subst z2; split <;> (try split) <;> rfl
              · split <;> (try split) <;> first | rfl | (exfalso; omega)
            · by_cases z2 : hi = x
              · subst z2; split <;> (try split) <;> first | rfl | (exfalso; omega)
              · split <;> (try split) <;> first | rfl | (exfalso; omega)
          case measure => simp [intOf]; omega
      · have hff : f = F := by omega
        subst hff
        have hfa : firstX B f = allX B := by rw [← HFF.out]; exact firstX_all B
        rw [hfa, HLA.out] at p0
        rw [hfa, HHA.out] at p1
        have hrr := (HBs5.out.block (w.heap.size + 1) hsz1).trans k1
        have r0 := cell_blk hrr 0 rfl
        have r1 := cell_blk hrr 1 rfl
        have g0 := free_blk hrr 0
        have g1 := free_blk hrr 1
        clear hfa
        go_wp2
        have hh := two_st (x := .int .i64 (lowF B (allX B))) (y := .int .i64 (highF B (allX B))) hrr
        refine bodyPost_ret (rdeep_result _ _ (w.heap.size + 1) _ _ _ rfl rfl (cell_blk hh 0 rfl) (cell_blk hh 1 rfl)) rfl ⟨by rw [HE.out]; rfl, (fin HBs.out HBs5.out).trans (((Below.refl _ _).setCell (p := ⟨w.heap.size + 1, 0, none⟩) (Nat.le_succ _) _).trans ((Below.refl _ _).setCell (p := ⟨w.heap.size + 1, 1, none⟩) (Nat.le_succ _) _))⟩

end Go.Proofs.Ytbieglmpkljjjaa
