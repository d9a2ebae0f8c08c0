/-
  OneEnd2: oneEnd of package keys, its walk.
-/
import Derived.Test.YtbieglmpkljjjaaOneEnd
namespace Go.Proofs.Ytbieglmpkljjjaa
open Go.RowKit Go.Shelf

attribute [local go_sem] Oper.semAt_some

theorem one_st {W : World} {g : Nat} {a x : Value} {T : TypeId} (h : W.heap[g]? = some (.cells #[a] T)) : (W.setCell ⟨g, 0, none⟩ x).heap[g]? = some (.cells #[x] T) := by
  simp [World.setCell, Array.getElem?_modify, h]
theorem end_bd {B : KB} (hG : GoodB B) {x : Nat → Int} (hx : GoodX B.nv B.V B.nv x) (hns : B.ns ≤ 7) : 0 ≤ endOf B.D x + 1 ∧ endOf B.D x + 1 < 8 := by
  obtain ⟨pre, k, _, hk, hm, _, he⟩ := walk_last hG.D hx
  have := (hG.D.stop k hk hm).2
  rw [he]
  omega
theorem inC_good {B : KB} {c x : Nat → Int} (h : InC c B.V B.nv x) : GoodX B.nv B.V B.nv x := inC_goodX fun i hi => ⟨(h i hi).1, (h i hi).2.1, fun h' => absurd rfl h'⟩
theorem one_same {B : KB} (hG : GoodB B) {c : Nat → Int} (hc : CubeOk B c) (hns : B.ns ≤ 7) {ys : List (Nat × Nat × (Nat → Int))} (h : FrAll B.nv c B.V ys) : decide (many (endsS B (frs ys)) = 1) = sameZ B (cubeF B c) := by
  have hne : frs ys ≠ [] := by
    intro e
    obtain ⟨y, hy, _⟩ := h.2 (zeroC c) (zeroC_in (fun i hi => by have := (hG.V i hi).1; omega) hc.val)
    have : y.2.2 ∈ frs ys := List.mem_map.2 ⟨y, hy, rfl⟩
    rw [e] at this; cases this
  have hin : ∀ x, x ∈ frs ys → InC c B.V B.nv x := fun x hx => by
    obtain ⟨y, hy, rfl⟩ := List.mem_map.1 hx
    exact h.1 y hy
  rw [Bool.eq_iff_iff, ends_one hne fun x hx => end_bd hG (inC_good (hin x hx)) hns, sameZ_iff]
  constructor
  · intro h1 z hz y hy
    have key : ∀ z, z ∈ cubeF B c → ∃ x, x ∈ frs ys ∧ endOf B.D x = endZ B z := fun z hz => by
      obtain ⟨z1, z2⟩ := cubeF_mem.1 hz
      obtain ⟨_, hz3⟩ := (allF_mem B z).1 z1
      have hz4 : InC c B.V B.nv (atL z) := fun i hi => ⟨(hz3 i hi).1, (hz3 i hi).2.1, fun h' => (z2 i hi).resolve_left h'⟩
      obtain ⟨y, hy, e⟩ := h.2 _ hz4
      exact ⟨y.2.2, List.mem_map.2 ⟨y, hy, rfl⟩, endOf_cong hG (inC_good (h.1 y hy)) e⟩
    obtain ⟨x1, a1, b1⟩ := key z hz
    obtain ⟨x2, a2, b2⟩ := key y hy
    rw [← b1, ← b2, h1 x1 a1 x2 a2]
  · intro h1 x hx y hy
    have key : ∀ x, x ∈ frs ys → ∃ z, z ∈ cubeF B c ∧ endOf B.D x = endZ B z := fun x hx => by
      have hi := hin x hx
      have hat : ∀ i, i < B.nv → x i = atL (fromF B.nv x) i := fun i hi => by simp [atL, fromF, hi]
      refine ⟨fromF B.nv x, cubeF_mem.2 ⟨(allF_mem B _).2 ⟨fromF_len _ _, fun i hn => ?_⟩, fun i hn => ?_⟩, endOf_cong hG (inC_good hi) hat⟩
      · rw [← hat i hn]; exact ⟨(hi i hn).1, (hi i hn).2.1, fun h' => absurd rfl h'⟩
      · rw [← hat i hn]
        by_cases e : c i = -1
        · exact .inl e
        · exact .inr ((hi i hn).2.2 e)
    obtain ⟨z1, a1, b1⟩ := key x hx
    obtain ⟨z2, a2, b2⟩ := key y hy
    rw [b1, b2, h1 z1 a1 z2 a2]

set_option maxRecDepth 100000 in
set_option maxHeartbeats 4000000 in
theorem oneEnd_any (N : Nat) (v : Value) (B : KB) (c : Nat → Int) (w : World) (h : BookAt N w v B) (hG : GoodB B) (hc : CubeOk B c) (hns : B.ns ≤ 7) :
    Calls Try.prog 113 #[cubeV c, v] w fun e w' => e = .returned (.bool (sameZ B (cubeF B c))) ∧ Below w.heap.size w w' := by
  obtain ⟨hN, a1, z1, a2, z2, a3, z3, rfl, _⟩ := id h
  have HB := Lib.hid h
  have HG := Lib.hid hG
  have HC := Lib.hid hc
  have hnn := hG.nn
  have hn1 := hG.D.n1
  have hnv1 := hG.nv1
  have hnv5 := hG.nv
  clear h hG hc
  refine (callsIn_wide (n := 9)).1 ?_
  refine callsIn_of_wp_marks Try.func113 rfl trivial ?_ rfl
  simp only [Try.ntmps113, List.size_toArray, List.length_cons, List.length_nil, Nat.reduceAdd, Nat.reduceSub, Array.replicate_succ, Array.replicate_zero, List.push_toArray, List.append_toArray, List.nil_append, List.cons_append]
  unfold cubeV
  gi_wp2_with (refine ⟨trivial, ?_⟩; gi_at_call 108; go_must (refine (callsIn_wide.2 (cfruits_any c _ _ _ _)).mono ?_; rintro e w' ⟨rfl, hw2⟩; rw [hw2]; clear hw2 w'))
  obtain ⟨ws, hws, HBs, hsz, k0, k1, k2⟩ := allocs3 w (.cells #[.int .i64 (c 0), .int .i64 (c 1), .int .i64 (c 2), .int .i64 (c 3), .int .i64 (c 4)] 94) (.cells #[.slice a1 B.nv z1, .slice a2 B.ns z2, .slice a3 B.D.n z3] 26) (.cells #[.int .u64 0] 104)
  rw [hws]
  obtain ⟨w2, hw2, HBf, hszf, hszf1, hblk1, hblk2⟩ := box2 ws (.cells #[.int .i64 (c 0), .int .i64 (c 1), .int .i64 (c 2), .int .i64 (c 3), .int .i64 (c 4)] 94) (.cells #[.slice a1 B.nv z1] 22)
  rw [hw2]
  clear hw2
  have hs3 : ws.heap.size = w.heap.size + 1 + 1 + 1 := by rw [← hws]; simp
  clear hws
  rw [← hs3]
  have HC1 : Hid (w2.heap[ws.heap.size]? = _) := hblk1
  have HC2 : Hid (w2.heap[ws.heap.size + 1]? = _) := hblk2
  have HBW : Hid (Below w.heap.size w w2) := fin HBs.out HBf.out
  have K1 : Hid (w2.heap[w.heap.size + 1]? = _) := (HBf.out.block _ (by omega)).trans k1
  have K2 : Hid (w2.heap[w.heap.size + 1 + 1]? = _) := (HBf.out.block _ (by omega)).trans k2
  have hseq := fruits1_seq 8 (by omega) ws.heap.size (ws.heap.size + 1) N B.nv c B.V (fun k => k = w.heap.size + 1 + 1) (KeptC fun k => k = w.heap.size + 1 + 1) (fun _ _ h => h) w2 a1 z1 HC1.out (cell_blk HC2.out 0 rfl)
    (HB.out.go HBW.out).vals (Nat.le_trans hN HBW.out.size) (by omega) (by omega) (fun k hk => by omega) (fun k hk => by omega) hnv1 hnv5 HG.out.V HC.out.val
  have HSEQ := Lib.hid hseq
  have hgs : w.heap.size + 1 + 1 < w2.heap.size := by omega
  have hws2 : w.heap.size + 1 + 1 < ws.heap.size := by omega
  clear hseq hblk1 hblk2 k0 k1 k2 hs3 hsz
  refine rangeL (w := w2) rfl (by omega) (gf := 138) (lb := #[.pointer (some ⟨ws.heap.size, 0, none⟩), .pointer (some ⟨ws.heap.size + 1, 0, none⟩)]) rfl trivial (enters_of Try.func138 (by kernel_rfl) rfl) HSEQ.out
    (fun h k => KeptC.trans h k) (fun W l o o' hl hW ho => ⟨by simp [World.putObj], fun k ob hk hc _ => (World.putObj_heap_other (by intro e; subst e; rw [hW] at hk; cases hk; rw [ho] at hc; cases hc)).trans hk⟩) (Below.refl _ _) (fun _ => rfl)
    (fun W A C k o hab hk hA _ => (hab.block k hk).trans hA)
    (BoxI w2 (w.heap.size + 1 + 1) (w.heap.size + 1 + 1) 104 (fun ys => #[.int .u64 (endsS B (frs ys) : Nat)])) (fun _ _ _ => False)
    (fun s => BoxI.rec' (by omega) (by omega) s) (fun _ _ _ _ _ _ h _ _ _ => h)
    (fun x A l o o' hs hl hA ho => ⟨hs.1, by simpa [World.putObj] using hs.2.1, hs.2.2.1.kept (World.putObj_heap_other (by
      intro e
      obtain ⟨ob, hob, hc⟩ := cells_of_cell (hs.2.2.1 0 (by omega)).1
      have hob' : A.heap[x.1]? = some ob := hob
      rw [e, hA] at hob'; cases hob'; rw [ho] at hc; cases hc)), hs.2.2.2⟩)
    (fun W s A C hW hs hk => ⟨(hk.block _ (by omega)).trans hs.1, hs.2.trans (hk.mono (by omega))⟩) (fun _ _ _ _ _ _ h _ => h) (fun s A o hs => BoxI.below hs (by have := hs.size; omega) (below_alloc (Nat.le_refl _) o))
    ⟨K2.out, Below.refl _ _⟩ (fun W => ⟨Nat.le_refl _, fun _ _ h _ _ => h⟩)
    (fun x => { tmps := #[.agg #[.int .i64 (c 0), .int .i64 (c 1), .int .i64 (c 2), .int .i64 (c 3), .int .i64 (c 4)], .agg #[.slice a1 B.nv z1, .slice a2 B.ns z2, .slice a3 B.D.n z3], .pointer (some ⟨w.heap.size, 0, none⟩), .pointer (some ⟨w.heap.size + 1, 0, none⟩), .bool false, .pointer (some ⟨w.heap.size + 1 + 1, 0, none⟩), .slice (some ⟨x.1, 0, none⟩) B.nv x.2.1, .agg #[.int .i64 (c 0), .int .i64 (c 1), .int .i64 (c 2), .int .i64 (c 3), .int .i64 (c 4)], .pointer (some ⟨w.heap.size + 1, 0, none⟩), .slice a1 B.nv z1, .func (.func 138) #[] #[.pointer (some ⟨ws.heap.size, 0, none⟩), .pointer (some ⟨ws.heap.size + 1, 0, none⟩)], .slice (some ⟨x.1, 0, none⟩) B.nv x.2.1, undef, undef, undef, undef, undef, undef, undef, undef, undef], defers := [] })
    ?assign ?body ?done ?stop
  case assign =>
    intro l x W K hK
    gi_wp2
    exact hK
  case body =>
    intro l pre x W hl hrec hs hg _
    obtain ⟨fg, fcap, fx⟩ := x
    obtain ⟨hg1, hg2, hg3, hg4⟩ := hg
    dsimp only at hg1 hg2 hg3 hg4 ⊢
    have hc0 := hs.cell 0 rfl
    have hf0 := hs.free 0
    have hwW := hs.size
    have hbb := (hs.2.block (w.heap.size + 1) (by omega)).trans K1.out
    have b0 := cell_blk hbb 0 rfl
    have b1 := cell_blk hbb 1 rfl
    have b2 := cell_blk hbb 2 rfl
    have HBKW : Hid (BookAt N W (.agg #[.slice a1 B.nv z1, .slice a2 B.ns z2, .slice a3 B.D.n z3]) B) := (HB.out.go HBW.out).mono (hs.2.mono (by omega)) (Nat.le_refl _) (by omega)
    have HIW : Hid (IntsAt W.heap.size W (.slice (some ⟨fg, 0, none⟩) B.nv fcap) B.nv fx) := ⟨_, fcap, rfl, by omega, fun _ => ⟨fg, 0, rfl, hg2, fun i hi => ⟨_, by rw [Nat.zero_add]; exact (hg3 i hi).1, rfl⟩⟩⟩
    have HGX := Lib.hid (inC_good hg4)
    have HE := Lib.hid (kend_any N _ _ B B.nv fx W.drew (HBKW.out.go (Below.refl _ _).drew) HIW.out HG.out HGX.out)
    have HS := Lib.hid hs
    have hspan : w.heap.size + 1 + 1 < W.heap.size := by omega
    have HEN : Hid (endsS B (frs (pre ++ [(fg, fcap, fx)])) = put1 (endsS B (frs pre)) (endN B fx)) := by unfold Hid frs; rw [List.map_append]; exact endsS_snoc _ _ _
    have hgin := hg4
    obtain ⟨hev0, hev8⟩ := end_bd HG.out HGX.out hns
    obtain ⟨ev, hev⟩ : ∃ ev, endOf B.D fx = ev := ⟨_, rfl⟩
    have hene : endN B fx = (ev + 1).toNat := by unfold endN; rw [hev]; rw [hev] at hev0 hev8; omega
    rw [hene] at HEN
    rw [hev] at HE hev0 hev8
    obtain ⟨en, hen⟩ : ∃ en : Nat, (ev + 1).toNat = en := ⟨_, rfl⟩
    rw [hen] at HEN
    have hen8 : en < 8 := by omega
    have hsub : IntKind.i64.wrap (ev - -1) = (en : Int) := by rw [IntWalk.i64_in _ (by omega)]; omega
    have hsub2 : IntKind.i64.wrap (ev + 1) = (en : Int) := by rw [IntWalk.i64_in _ (by omega)]; omega
    have HPRE : Hid (endsS B (frs pre) < 256) := endsS_lt _ _
    obtain ⟨sp, hsp⟩ : ∃ sp, endsS B (frs pre) = sp := ⟨_, rfl⟩
    rw [hsp] at HEN HPRE
    rw [hsp] at hc0
    have HW := Lib.hid (setWith_any sp en HPRE.out hen8)
    have hne1 : w.heap.size + 1 ≠ w.heap.size + 1 + 1 := by omega
    have hlt1 : w.heap.size + 1 < W.heap.size := by omega
    clear hs hev hen hene hsp hbb hg1 hg2 hg3 hg4
    gi_wp2
    refine region_round (l := l) (S := fun w' => ∀ b o, b < W.heap.size → b ≠ w.heap.size + 1 + 1 → w'.cell? ⟨b, o, none⟩ = W.cell? ⟨b, o, none⟩) (by kernel_rfl) (by kernel_rfl) (fun b o _ _ => rfl) (fun hHeld => ?_)
    have Sr : ∀ b o, b < W.heap.size → b ≠ w.heap.size + 1 + 1 → W.drew.cell? ⟨b, o, none⟩ = W.cell? ⟨b, o, none⟩ := fun b o _ _ => rfl
    (refine wpAnyH_take (i := 1) (v := ?_) rfl (by kernel_rfl) (by kernel_rfl) (by kernel_rfl) (fun _ _ _ h => h) (Or.inl ⟨by rfl, ?_⟩) (by assumption) ?_; rotate_left; (focus (intro w hSw; (try dsimp only at hSw); go_simp; (try with_reducible rfl))); (try simp only [List.getElem_toArray, List.getElem_cons_zero, List.getElem_cons_succ, Act.put, List.setIfInBounds_toArray, List.set_cons_zero, List.set_cons_succ])); (refine wpAnyH_take (i := 2) (v := ?_) rfl (by kernel_rfl) (by kernel_rfl) (by kernel_rfl) (fun _ _ _ h => h) (Or.inl ⟨by rfl, ?_⟩) (by assumption) ?_; rotate_left; (focus (intro w hSw; (try dsimp only at hSw); go_simp; (try with_reducible rfl))); (try simp only [List.getElem_toArray, List.getElem_cons_zero, List.getElem_cons_succ, Act.put, List.setIfInBounds_toArray, List.set_cons_zero, List.set_cons_succ]))
    refine wpAnyH_ready (rs := [0, 3]) (by kernel_rfl) (by simp) ?_; refine AllReadyH.cons rfl (fun K hK => ?_) (AllReadyH.cons rfl (fun K hK => ?_) AllReadyH.nil)
    · go_simp
      refine hK.out _ _ (fun b o _ _ => rfl) (fun hHeld => ?_); clear hK K; (try simp only [List.getElem_toArray, List.getElem_cons_zero, List.getElem_cons_succ, Act.put, List.setIfInBounds_toArray, List.set_cons_zero, List.set_cons_succ])
      refine wpAnyH_ready (rs := [3]) (by kernel_rfl) (by simp) ?_; refine AllReadyH.cons rfl (fun K hK => ?_) AllReadyH.nil; go_simp
      go_at_call 71
      refine HE.out.mono ?_
      rintro e W3 ⟨rfl, hb3⟩
      have HB3 : Hid (Below W.heap.size W W3) := Lib.hid ((Below.refl W.heap.size W).drew.trans hb3)
      have hc3 := (HB3.out.cell (p := ⟨w.heap.size + 1 + 1, 0, none⟩) hspan).trans hc0
      have hf3 := free_blk ((HB3.out.block (w.heap.size + 1 + 1) hspan).trans HS.out.1) 0
      clear hb3
      refine hK.out _ _ (fun b o hb1 _ => HB3.out.cell (p := ⟨b, o, none⟩) hb1) (fun hHeld => ?_); clear hK K; (try simp only [List.getElem_toArray, List.getElem_cons_zero, List.getElem_cons_succ, Act.put, List.setIfInBounds_toArray, List.set_cons_zero, List.set_cons_succ])
      (refine wpAnyH_take (i := 4) (v := ?_) rfl (by kernel_rfl) (by kernel_rfl) (by kernel_rfl) (fun _ _ _ h => h) (Or.inl ⟨by rfl, ?_⟩) (by assumption) ?_; rotate_left; (focus (intro w hSw; (try dsimp only at hSw); go_simp; (try with_reducible rfl))); (try simp only [List.getElem_toArray, List.getElem_cons_zero, List.getElem_cons_succ, Act.put, List.setIfInBounds_toArray, List.set_cons_zero, List.set_cons_succ]))
      refine wpAnyH_ready (rs := [5]) (by kernel_rfl) (by simp) ?_; refine AllReadyH.cons rfl (fun K hK => ?_) AllReadyH.nil; go_simp
      go_at_call 110
      refine (HW.out _).mono ?_
      rintro e wq ⟨rfl, hwq⟩
      rw [hwq]
      clear hwq wq
      refine hK.out _ _ (fun b o hb1 _ => HB3.out.cell (p := ⟨b, o, none⟩) hb1) (fun hHeld => ?_); clear hK K; (try simp only [List.getElem_toArray, List.getElem_cons_zero, List.getElem_cons_succ, Act.put, List.setIfInBounds_toArray, List.set_cons_zero, List.set_cons_succ])
      refine wpAnyH_ready (rs := [6]) (by kernel_rfl) (by simp) ?_; refine AllReadyH.cons rfl (fun K hK => ?_) AllReadyH.nil; go_simp
      refine hK.out _ _ (fun b o hb1 hb2 => (World.cell?_setCell_far _ _ _ _ (by show w.heap.size + 1 + 1 ≠ b; omega)).trans (HB3.out.cell (p := ⟨b, o, none⟩) hb1)) (fun hHeld => ?_); clear hK K; (try simp only [List.getElem_toArray, List.getElem_cons_zero, List.getElem_cons_succ, Act.put, List.setIfInBounds_toArray, List.set_cons_zero, List.set_cons_succ])
      refine wpAnyH_done (by kernel_rfl) ?_ _; clear hHeld
      unfold onlyN
      gi_wp2
      refine ⟨(keepsFrom_below _ HB3.out).trans ((KeepsOthers.setCell _ _ _).from _), ⟨by simpa [World.setCell] using HB3.out.size, fun j o hj _ he => (Below.heap_setCell _ _ _ _ he).trans ((HB3.out.block j (heap_lt hj)).trans hj)⟩, ⟨(one_st ((HB3.out.block _ hspan).trans HS.out.1)).trans ?_, (HS.out.2.trans (HB3.out.mono (by omega))).trans ((Below.refl _ _).setCell (p := ⟨w.heap.size + 1 + 1, 0, none⟩) (Nat.le_refl _) _)⟩⟩
      dsimp only
      rw [HEN.out]
    · go_simp
      go_at_call 71
      refine HE.out.mono ?_
      rintro e W3 ⟨rfl, hb3⟩
      have HB3 : Hid (Below W.heap.size W W3) := Lib.hid ((Below.refl W.heap.size W).drew.trans hb3)
      have hc3 := (HB3.out.cell (p := ⟨w.heap.size + 1 + 1, 0, none⟩) hspan).trans hc0
      have hf3 := free_blk ((HB3.out.block (w.heap.size + 1 + 1) hspan).trans HS.out.1) 0
      clear hb3
      refine hK.out _ _ (fun b o hb1 _ => HB3.out.cell (p := ⟨b, o, none⟩) hb1) (fun hHeld => ?_); clear hK K; (try simp only [List.getElem_toArray, List.getElem_cons_zero, List.getElem_cons_succ, Act.put, List.setIfInBounds_toArray, List.set_cons_zero, List.set_cons_succ])
      (refine wpAnyH_take (i := 4) (v := ?_) rfl (by kernel_rfl) (by kernel_rfl) (by kernel_rfl) (fun _ _ _ h => h) (Or.inl ⟨by rfl, ?_⟩) (by assumption) ?_; rotate_left; (focus (intro w hSw; (try dsimp only at hSw); go_simp; (try with_reducible rfl))); (try simp only [List.getElem_toArray, List.getElem_cons_zero, List.getElem_cons_succ, Act.put, List.setIfInBounds_toArray, List.set_cons_zero, List.set_cons_succ]))
      refine wpAnyH_ready (rs := [0]) (by kernel_rfl) (by simp) ?_; refine AllReadyH.cons rfl (fun K hK => ?_) AllReadyH.nil; go_simp
      refine hK.out _ _ (fun b o hb1 _ => HB3.out.cell (p := ⟨b, o, none⟩) hb1) (fun hHeld => ?_); clear hK K; (try simp only [List.getElem_toArray, List.getElem_cons_zero, List.getElem_cons_succ, Act.put, List.setIfInBounds_toArray, List.set_cons_zero, List.set_cons_succ])
      refine wpAnyH_ready (rs := [5]) (by kernel_rfl) (by simp) ?_; refine AllReadyH.cons rfl (fun K hK => ?_) AllReadyH.nil; go_simp
      go_at_call 110
      refine (HW.out _).mono ?_
      rintro e wq ⟨rfl, hwq⟩
      rw [hwq]
      clear hwq wq
      refine hK.out _ _ (fun b o hb1 _ => HB3.out.cell (p := ⟨b, o, none⟩) hb1) (fun hHeld => ?_); clear hK K; (try simp only [List.getElem_toArray, List.getElem_cons_zero, List.getElem_cons_succ, Act.put, List.setIfInBounds_toArray, List.set_cons_zero, List.set_cons_succ])
      refine wpAnyH_ready (rs := [6]) (by kernel_rfl) (by simp) ?_; refine AllReadyH.cons rfl (fun K hK => ?_) AllReadyH.nil; go_simp
      refine hK.out _ _ (fun b o hb1 hb2 => (World.cell?_setCell_far _ _ _ _ (by show w.heap.size + 1 + 1 ≠ b; omega)).trans (HB3.out.cell (p := ⟨b, o, none⟩) hb1)) (fun hHeld => ?_); clear hK K; (try simp only [List.getElem_toArray, List.getElem_cons_zero, List.getElem_cons_succ, Act.put, List.setIfInBounds_toArray, List.set_cons_zero, List.set_cons_succ])
      refine wpAnyH_done (by kernel_rfl) ?_ _; clear hHeld
      unfold onlyN
      gi_wp2
      refine ⟨(keepsFrom_below _ HB3.out).trans ((KeepsOthers.setCell _ _ _).from _), ⟨by simpa [World.setCell] using HB3.out.size, fun j o hj _ he => (Below.heap_setCell _ _ _ _ he).trans ((HB3.out.block j (heap_lt hj)).trans hj)⟩, ⟨(one_st ((HB3.out.block _ hspan).trans HS.out.1)).trans ?_, (HS.out.2.trans (HB3.out.mono (by omega))).trans ((Below.refl _ _).setCell (p := ⟨w.heap.size + 1 + 1, 0, none⟩) (Nat.le_refl _) _)⟩⟩
      dsimp only
      rw [HEN.out]
  case done =>
    rintro D ys W hD hys hs hK
    have hc0 := hs.cell 0 rfl
    have HY := Lib.hid (one_same HG.out HC.out hns hys)
    obtain ⟨sp, hsp⟩ : ∃ sp, endsS B (frs ys) = sp := ⟨_, rfl⟩
    have hs256 : sp < 256 := by rw [← hsp]; exact endsS_lt _ _
    rw [hsp] at hc0 HY
    have HM := Lib.hid (setMany_any sp hs256)
    have HS := Lib.hid hs
    have hspan : w.heap.size + 1 + 1 < W.heap.size := heap_lt hs.1
    have hBw : Below w.heap.size w W := HBW.out.trans (hs.2.mono (by omega))
    have HBw := Lib.hid hBw
    have HKD := Lib.hid hK
    have heq : ((many sp : Int) == 1) = sameZ B (cubeF B c) := by rw [← HY.out, Bool.eq_iff_iff]; simp; omega
    clear hs hsp hBw hK hys
    gi_wp2_with (refine ⟨trivial, ?_⟩; gi_at_call 111; refine (callsIn_wide.2 (HM.out _)).mono ?_; rintro e wq ⟨rfl, hwq⟩; rw [hwq]; clear hwq wq)
    refine ⟨by simp, .inl ⟨_, _, rfl, run_takeDeferred HKD.out, ?_⟩⟩
    have hDw : w.heap.size ≤ D := Nat.le_trans HBW.out.size hD
    exact ⟨_, results_tmp rfl _ _ _, rfl, HBw.out.trans (belowK_b (w := w) (Nat.le_refl _) W D _ _ (by omega) HKD.out rfl rfl)⟩
  case stop =>
    rintro D c pre W hD _ h _
    exact h.elim
end Go.Proofs.Ytbieglmpkljjjaa
