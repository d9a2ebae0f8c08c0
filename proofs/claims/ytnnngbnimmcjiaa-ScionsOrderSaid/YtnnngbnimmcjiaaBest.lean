/-
  Best: the gifts that fit, and the first one of them with the greatest number that is asked for.
-/
import Derived.Test.YtnnngbnimmcjiaaLen
namespace Go.Proofs.Ytnnngbnimmcjiaa
open Go.RowKit Go.Shelf

attribute [local go_sem] Oper.semAt_some

theorem anyDepthR {F : Fence} (hd : F.depth = none) {m m' : Nat} {P : Program} {l : Nat} {f : FuncId} {tmps : Array Value} {assign body : Code} {w : World} {R : Ending → World → Prop}
    (h : RoundIn F m P l f tmps assign body w R) : RoundIn F m' P l f tmps assign body w R := ⟨h.1, fun c cs _ => h.2 c cs (fun d h => by rw [hd] at h; cases h)⟩
theorem anyDepthY {F : Fence} (hd : F.depth = none) {m : Nat} (m' : Nat) {P : Program} {l : Nat} {args : Array Value} {W : World} {R : Ending → World → Prop} (h : YieldAt F m P l args W R) : YieldAt F m' P l args W R := by
  obtain ⟨fn, tmps, assign, body, hy, hR⟩ := h
  exact ⟨fn, tmps, assign, body, hy, anyDepthR hd hR⟩

set_option maxHeartbeats 400000 in
theorem gifts_any (a1 a2 a3 : Option Addr) (n1 n2 n3 z1 z2 z3 : Nat) (w : World) :
    Calls Try.prog 73 #[.agg #[.slice a1 n1 z1, .slice a2 n2 z2, .slice a3 n3 z3]] w fun e w' => e = .returned (.func (.func 87) #[] #[.pointer (some ⟨w.heap.size, 0, none⟩)]) ∧ w' = w.alloc (.cells #[.slice a1 n1 z1, .slice a2 n2 z2, .slice a3 n3 z3] 62) := by
  go_enter Try.func73, Try.ntmps73
  go_wp2
  go_ret
  exact ⟨rfl, rfl⟩

set_option maxRecDepth 100000 in
set_option maxHeartbeats 1600000 in
theorem gifts1_seq (n Bb N lo : Nat) (B : SB) (p : Nat) (Ex : Nat → Prop) (w : World) (a1 a2 a3 : Option Addr) (z1 z2 z3 : Nat) (hbox : w.heap[Bb]? = some (.cells #[.slice a1 B.ns z1, .slice a2 B.ng z2, .slice a3 B.nw z3] 62))
    (h : BookAt N w (.agg #[.slice a1 B.ns z1, .slice a2 B.ng z2, .slice a3 B.nw z3]) B) (hG : GoodL B p) (hN : N ≤ lo) (hlo : lo ≤ w.heap.size) (hE : ∀ k, Ex k → N ≤ k ∧ k < lo) :
    SeqN Fence.wide n Try.prog 87 #[.pointer (some ⟨Bb, 0, none⟩)] (fun x : Value × List Nat => #[x.1, cntV (cS B x.2)]) (KeptC Ex) (fun _ A C => Below A.heap.size A C) (fun x W => GU lo W x.1 x.2 ∧ GOK B x.2 ∧ lo ≤ W.heap.size) (fun ys => ys.map Prod.snd = giftsL B) w := by
  intro l J W hW hJ hY h0
  have hbW := (hW.block Bb (heap_lt hbox)).trans hbox
  have q0 := cell_blk hbW 0 rfl
  have q1 := cell_blk hbW 1 rfl
  have q2 := cell_blk hbW 2 rfl
  have hHL := lengthen_says l N lo B p Ex a1 a2 a3 z1 z2 z3 J hN hE hG hJ
    (fun m pre u g W1 hj hg hk hl => anyDepthY rfl m (hY pre (u, g) W1 hj ⟨hg, hk, hl⟩)) B.nw (n - 1) [] (.slice none 0 0) zeroG [] W (by rw [nxG_nil]; omega) (GOK.nil B) (.inl ⟨rfl, rfl⟩) (GV.zero B) (h.go hW) (Nat.le_trans hlo hW.size) h0
  unfold zeroG at hHL
  have HHL := Lib.hid hHL
  clear hHL hJ hY h0 hW h hG hE hbox hbW
  refine callsIn_of_wp Try.func87 rfl trivial ?_ rfl
  simp only [Try.ntmps87, List.size_toArray, List.length_cons, List.length_nil, Nat.reduceAdd, Nat.reduceSub, Array.replicate_succ, Array.replicate_zero, List.push_toArray, List.append_toArray, List.nil_append, List.cons_append]
  gi_wp2_with (refine ⟨trivial, fun h => (by cases h), ?_⟩; gi_at_call 88; refine HHL.out.mono ?_; clear HHL; rintro e w1 ⟨rfl, xs, hxs, hJ1, _⟩)
  go_end0
  exact ⟨⟨_, rfl⟩, xs, hxs, by simpa using hJ1⟩

/-- the first one with the greatest f -/
def bestStep (f : List Nat → Nat) (b g : List Nat) : List Nat := if f b < f g then g else b
def bestL (f : List Nat → Nat) (l : List (List Nat)) : List Nat := l.foldl (bestStep f) []
theorem bestL_snoc (f : List Nat → Nat) (l : List (List Nat)) (g : List Nat) : bestL f (l ++ [g]) = bestStep f (bestL f l) g := by simp [bestL, List.foldl_append]

theorem cS_le (B : SB) (g : List Nat) (h : g.length ≤ 12) (i : Nat) : cS B g i ≤ 12 := Nat.le_trans List.countP_le_length h
theorem GOK.le12 {B : SB} {g : List Nat} {p : Nat} (h : GOK B g) (hG : GoodL B p) : g.length ≤ 12 := by have := h.len; have := h.top; have := hG.nw; omega

theorem allocs5 (w : World) (o1 o2 o3 o4 o5 : Obj) : ∃ ws : World, ((((w.alloc o1).alloc o2).alloc o3).alloc o4).alloc o5 = ws ∧ Hid (Below w.heap.size w ws) ∧ ws.heap.size = w.heap.size + 5 ∧
    ws.heap[w.heap.size]? = some o1 ∧ ws.heap[w.heap.size + 1]? = some o2 ∧ ws.heap[w.heap.size + 1 + 1]? = some o3 ∧ ws.heap[w.heap.size + 1 + 1 + 1]? = some o4 ∧ ws.heap[w.heap.size + 1 + 1 + 1 + 1]? = some o5 :=
  ⟨_, rfl, allocs_below [o1, o2, o3, o4, o5] w, by simp, allocs_at [o1, o2, o3, o4, o5] w 0 _ rfl, allocs_at [o1, o2, o3, o4, o5] w 1 _ rfl, allocs_at [o1, o2, o3, o4, o5] w 2 _ rfl, allocs_at [o1, o2, o3, o4, o5] w 3 _ rfl, allocs_at [o1, o2, o3, o4, o5] w 4 _ rfl⟩

/-- the best one of those that have come, in its two variables -/
def BestI (B : SB) (w2 : World) (h lo : Nat) (f : List Nat → Nat) (pre : List (Value × List Nat)) (W : World) : Prop :=
  ∃ u g, g = bestL f (pre.map Prod.snd) ∧ GU lo W u g ∧ GOK B g ∧ W.heap[h]? = some (.cells #[u] 22) ∧
    W.heap[h + 1]? = some (.cells #[.int .i64 (cS B g 0), .int .i64 (cS B g 1), .int .i64 (cS B g 2), .int .i64 (cS B g 3)] 69) ∧ Below h w2 W
theorem BestI.below {B : SB} {w2 : World} {h lo : Nat} {f : List Nat → Nat} {pre : List (Value × List Nat)} {A C : World} (hI : BestI B w2 h lo f pre A) (k : Below A.heap.size A C) : BestI B w2 h lo f pre C := by
  obtain ⟨u, g, e, h1, h2, h3, h4, h5⟩ := hI
  have hs := heap_lt h4
  exact ⟨u, g, e, h1.below k, h2, (k.block _ (heap_lt h3)).trans h3, (k.block _ hs).trans h4, h5.trans (k.mono (by omega))⟩
theorem BestI.rec' {B : SB} {w2 : World} {h lo : Nat} {f : List Nat → Nat} {R : Nat} (hR : h + 1 < R) (pre : List (Value × List Nat)) : Rec R (BestI B w2 h lo f pre) := by
  intro A l o o' hI hl hA ho
  obtain ⟨u, g, e, h1, h2, h3, h4, h5⟩ := hI
  refine ⟨u, g, e, ?_, h2, (World.putObj_heap_other (by omega)).trans h3, (World.putObj_heap_other (by omega)).trans h4, h5.trans (below_putObj o' hA (by omega))⟩
  rcases h1 with h1 | ⟨g0, b, cap, cur, g1, g2, g3, g4, g5⟩
  · exact .inl h1
  · exact .inr ⟨g0, b, cap, cur, g1, g2, g3, (World.putObj_heap_other (by intro e; subst e; rw [hA] at g4; cases g4; cases ho)).trans g4, g5⟩
theorem GU.rec' {lo R : Nat} (u : Value) (g : List Nat) : Rec R (fun W => GU lo W u g) := by
  intro A l o o' h1 hl hA ho
  rcases h1 with h1 | ⟨g0, b, cap, cur, g1, g2, g3, g4, g5⟩
  · exact .inl h1
  · exact .inr ⟨g0, b, cap, cur, g1, g2, g3, (World.putObj_heap_other (by intro e; subst e; rw [hA] at g4; cases g4; cases ho)).trans g4, g5⟩
theorem KeptC.putObj (Ex : Nat → Prop) {W : World} {l : Nat} {o : Obj} (o' : Obj) (hW : W.heap[l]? = some o) (ho : o.isCells = false) : KeptC Ex W (W.putObj l o') :=
  ⟨by simp [World.putObj], fun k ob hk hc _ => (World.putObj_heap_other (by intro e; subst e; rw [hW] at hk; cases hk; rw [ho] at hc; cases hc)).trans hk⟩

theorem put4 {W : World} {b : Nat} {x0 x1 x2 x3 : Value} {t : TypeId} (h : W.heap[b]? = some (.cells #[x0, x1, x2, x3] t)) (v0 v1 v2 v3 : Value) :
    ∃ W', (((W.setCell ⟨b, 0, none⟩ v0).setCell ⟨b, 1, none⟩ v1).setCell ⟨b, 2, none⟩ v2).setCell ⟨b, 3, none⟩ v3 = W' ∧ W'.heap[b]? = some (.cells #[v0, v1, v2, v3] t) ∧ (∀ k, k ≠ b → W'.heap[k]? = W.heap[k]?) ∧ Below b W W' := by
  have e : ∀ (A : World) (i : Nat) (v : Value) k, k ≠ b → (A.setCell ⟨b, i, none⟩ v).heap[k]? = A.heap[k]? := fun A i v k hk => by
    show (A.heap.modify b _)[k]? = _
    rw [Array.getElem?_modify, if_neg (fun e => hk e.symm)]
  exact ⟨_, rfl, blk_set (blk_set (blk_set (blk_set h 0 v0) 1 v1) 2 v2) 3 v3, fun k hk => by rw [e _ _ _ k hk, e _ _ _ k hk, e _ _ _ k hk, e _ _ _ k hk],
    ((((Below.refl b W).setCell (p := ⟨b, 0, none⟩) (Nat.le_refl _) v0).setCell (p := ⟨b, 1, none⟩) (Nat.le_refl _) v1).setCell (p := ⟨b, 2, none⟩) (Nat.le_refl _) v2).setCell (p := ⟨b, 3, none⟩) (Nat.le_refl _) v3⟩
theorem put1 {W : World} {b : Nat} {x : Value} {t : TypeId} (h : W.heap[b]? = some (.cells #[x] t)) (v : Value) :
    ∃ W', (W.setCell ⟨b, 0, none⟩ v) = W' ∧ W'.heap[b]? = some (.cells #[v] t) ∧ (∀ k, k ≠ b → W'.heap[k]? = W.heap[k]?) ∧ Below b W W' := by
  refine ⟨_, rfl, blk_set h 0 v, fun k hk => ?_, (Below.refl b W).setCell (p := ⟨b, 0, none⟩) (Nat.le_refl _) v⟩
  show (W.heap.modify b _)[k]? = _
  rw [Array.getElem?_modify, if_neg (fun e => hk e.symm)]
theorem results_tmp_cell {fn : Func} {p u : Tmp} {ty : TypeId} (h : fn.results = #[.tmp u, .cell p ty]) (tmps : Array Value) (P : Program) (w : World) :
    (results fn tmps).run P w = ((asAddr (tmps.getD p undef)).run P w).andThen fun a w₁ => ((loadVar ty a).run P w₁).andThen fun v w₂ => .ok (.tuple #[tmps.getD u undef, v]) w₂ := by
  simp only [results, h]
  simp [Sem.run_bind, Result.andThen]
theorem resTC {fn : Func} {p u : Tmp} (hf : fn.results = #[.tmp u, .cell p 69]) {tmps : Array Value} {W : World} {g : Nat} {t : TypeId} {x y0 y1 y2 y3 : Value} (hp : tmps.getD p undef = .pointer (some ⟨g, 0, none⟩)) (hx : tmps.getD u undef = x)
    (h : W.heap[g]? = some (.cells #[y0, y1, y2, y3] t)) : (results fn tmps).run Try.prog W = .ok (.tuple #[x, .agg #[y0, y1, y2, y3]]) W := by
  rw [results_tmp_cell hf, hp, hx]
  simp only [asAddr, Sem.run_pure, Result.andThen_ok, run_loadVar_row (P := Try.prog) W g t 69 #[y0, y1, y2, y3] (0, 0) _ h Try.underlying69 rfl (by kernel_rfl)]

theorem GU.form {lo : Nat} {W : World} {u : Value} {g : List Nat} (h : GU lo W u g) : ∃ a c, u = .slice a g.length c := by
  rcases h with ⟨rfl, rfl⟩ | ⟨h0, b, cap, cur, h1, h2, h3⟩
  · exact ⟨none, 0, rfl⟩
  · exact ⟨_, _, h1⟩
theorem GU.lower {lo lo' : Nat} {W : World} {u : Value} {g : List Nat} (h : GU lo W u g) (hl : lo' ≤ lo) : GU lo' W u g := by
  rcases h with h | ⟨h0, b, cap, cur, h1, h2, h3⟩
  · exact .inl h
  · exact .inr ⟨h0, b, cap, cur, h1, Nat.le_trans hl h2, h3⟩

set_option maxRecDepth 100000 in
set_option maxHeartbeats 12800000 in
theorem best_sum (N : Nat) (v : Value) (B : SB) (p : Nat) (w : World) (h : BookAt N w v B) (hG : GoodL B p) :
    Calls Try.prog 52 #[v, .func (.func 51) #[] #[]] w fun e w' => (∃ u, e = .returned (.tuple #[u, cntV (cS B (bestL (fun g => sumC (cS B g) 4) (giftsL B)))]) ∧ GU w.heap.size w' u (bestL (fun g => sumC (cS B g) 4) (giftsL B))) ∧ Below w.heap.size w w' := by
  obtain ⟨a1, z1, a2, z2, a3, z3, rfl⟩ := h.form
  obtain ⟨ws, hws, HB, hsz, k0, k1, k2, k3, k4⟩ := allocs5 w (.cells #[.slice a1 B.ns z1, .slice a2 B.ng z2, .slice a3 B.nw z3] 62) (.cells #[.func (.func 51) #[] #[]] 82) (.cells #[.int .i64 0, .int .i64 0, .int .i64 0, .int .i64 0] 69) (.cells #[.slice none 0 0] 22) (.cells #[.int .i64 0, .int .i64 0, .int .i64 0, .int .i64 0] 69)
  have q0 := cell_blk k0 0 rfl
  have q1 := cell_blk k0 1 rfl
  have q2 := cell_blk k0 2 rfl
  have hNw := h.1
  have HBK := Lib.hid (h.go HB.out)
  have HASK : Hid (∀ (W : World) (g : List Nat), Below w.heap.size w W → g.length ≤ 12 → Calls Try.prog 51 (#[cntV (cS B g)]) W fun e w' => e = .returned (.int .i64 (sumC (cS B g) 4 : Nat)) ∧ Below W.heap.size W w') := fun W g hb hl => sum_any (cS B g) W (fun i _ => cS_le B g hl i)
  have HG := Lib.hid hG
  obtain ⟨f, hf⟩ : ∃ f : List Nat → Nat, (fun g => sumC (cS B g) 4) = f := ⟨_, rfl⟩
  have HFE : Hid (∀ g, (sumC (cS B g) 4 : Nat) = f g) := fun g => by rw [← hf]
  rw [hf]
  clear h hG hf
  have HASK2 : Hid (∀ (W : World) (g : List Nat), Below w.heap.size w W → g.length ≤ 12 → Calls Try.prog 51 (#[.agg #[.int .i64 (cS B g 0), .int .i64 (cS B g 1), .int .i64 (cS B g 2), .int .i64 (cS B g 3)]]) W fun e w' => e = .returned (.int .i64 (f g : Nat)) ∧ Below W.heap.size W w') := fun W g hb hl => by rw [← HFE.out g]; exact HASK.out W g hb hl
  clear HASK HFE
  refine (callsIn_wide (n := 4)).1 ?_
  refine callsIn_of_wp_marks Try.func52 rfl trivial ?_ rfl
  simp only [Try.ntmps52, List.size_toArray, List.length_cons, List.length_nil, Nat.reduceAdd, Nat.reduceSub, Array.replicate_succ, Array.replicate_zero, List.push_toArray, List.append_toArray, List.nil_append, List.cons_append]
  have HSZ := Lib.hid hsz
  have hsz0 : w.heap.size + 1 + 1 + 1 + 1 < ws.heap.size := by omega
  have hszN : N ≤ w.heap.size := hNw
  have K1 := Lib.hid k1
  have K2 := Lib.hid k2
  have K3 := Lib.hid k3
  have K4 := Lib.hid k4
  clear k0 k1 k2 k3 k4 hsz
  gi_wp2_with (refine ⟨trivial, ?_⟩; gi_at_call 73; refine (callsIn_wide.2 (gifts_any _ _ _ _ _ _ _ _ _ _)).mono ?_; rintro e w' ⟨rfl, hw1⟩; rw [hw1]; clear hw1 w'; obtain ⟨w2, hw2, HB2, hsz2, hblk2⟩ := box1 ws (.cells #[.slice a1 B.ns z1, .slice a2 B.ng z2, .slice a3 B.nw z3] 62); rw [hw2]; clear hw2)
  clear q0 q1 q2
  have HBW : Hid (Below w.heap.size w w2) := fin HB.out HB2.out
  have hseq := gifts1_seq 3 ws.heap.size N w2.heap.size B p (fun k => k = w.heap.size + 1 + 1 + 1 ∨ k = w.heap.size + 1 + 1 + 1 + 1) w2 a1 a2 a3 z1 z2 z3 hblk2 (HBK.out.go HB2.out) HG.out (by omega) (Nat.le_refl _) (fun k hk => by omega)
  have HSEQ := Lib.hid hseq
  have L1 := Lib.hid ((HB2.out.block _ (by omega)).trans K1.out)
  have L2 := Lib.hid ((HB2.out.block _ (by omega)).trans K2.out)
  have L3 := Lib.hid ((HB2.out.block _ (by omega)).trans K3.out)
  have L4 := Lib.hid ((HB2.out.block _ hsz0).trans K4.out)
  clear hseq hblk2
  refine rangeNo (w := w2) rfl (by omega) (gf := 87) (lb := #[.pointer (some ⟨ws.heap.size, 0, none⟩)]) rfl trivial (enters_of Try.func87 (by kernel_rfl) rfl) HSEQ.out
    (fun h k => KeptC.trans h k) (fun W l o o' _ hW ho => KeptC.putObj _ o' hW ho) (Below.refl _ _) (fun _ => rfl) (fun W A C k o hab _ hA _ => (hab.block k (heap_lt hA)).trans hA)
    (BestI B w2 (w.heap.size + 1 + 1 + 1) w2.heap.size f) (fun s => BestI.rec' (by omega) s)
    (fun x A l o o' hs hl hA ho => ⟨GU.rec' (R := w2.heap.size) x.1 x.2 A l o o' hs.1 hl hA ho, hs.2.1, by simpa [World.putObj] using hs.2.2⟩)
    (fun W s A C _ hs hk => hs.below hk) (fun s A o hs => hs.below (below_alloc (Nat.le_refl _) o))
    ⟨.slice none 0 0, [], rfl, .inl ⟨rfl, rfl⟩, GOK.nil B, L3.out, L4.out, Below.refl _ _⟩
    (fun x a' W => ∃ Bx, w2.heap.size ≤ Bx ∧ W.heap[Bx]? = some (.cells #[.int .i64 (cS B x.2 0), .int .i64 (cS B x.2 1), .int .i64 (cS B x.2 2), .int .i64 (cS B x.2 3)] 69) ∧ a' = { tmps := #[.agg #[.slice a1 B.ns z1, .slice a2 B.ng z2, .slice a3 B.nw z3], .func (.func 51) #[] #[], .pointer (some ⟨w.heap.size, 0, none⟩), .pointer (some ⟨w.heap.size + 1, 0, none⟩), .slice none 0 0, .pointer (some ⟨w.heap.size + 1 + 1, 0, none⟩), .pointer (some ⟨w.heap.size + 1 + 1 + 1, 0, none⟩), .pointer (some ⟨w.heap.size + 1 + 1 + 1 + 1, 0, none⟩), x.1, .pointer (some ⟨Bx, 0, none⟩), .agg #[.slice a1 B.ns z1, .slice a2 B.ng z2, .slice a3 B.nw z3], .func (.func 87) #[] #[.pointer (some ⟨ws.heap.size, 0, none⟩)], x.1, .agg #[.int .i64 (cS B x.2 0), .int .i64 (cS B x.2 1), .int .i64 (cS B x.2 2), .int .i64 (cS B x.2 3)], undef, undef, undef, undef, undef, undef, undef, undef, undef, undef, undef], defers := [] })
    (fun x a' A l o o' hs hl hA ho => by
      obtain ⟨Bx, h1, h2, h3⟩ := hs
      exact ⟨Bx, h1, (World.putObj_heap_other (by intro e; subst e; rw [hA] at h2; cases h2; cases ho)).trans h2, h3⟩) ?assign ?body ?done
  case assign =>
    intro l pre x W K hs hg hK
    unfold cntV
    gi_wp2
    have hk := below_alloc (Nat.le_refl W.heap.size) (.cells #[.int .i64 (cS B x.2 0), .int .i64 (cS B x.2 1), .int .i64 (cS B x.2 2), .int .i64 (cS B x.2 3)] 69)
    refine hK _ _ ((KeepsOthers.alloc _ _).from _) (KeptC.of_below hk) (hs.below hk) ⟨hg.1.below hk, hg.2.1, Nat.le_trans hg.2.2 hk.size⟩ ⟨W.heap.size, hg.2.2, World.alloc_heap_new _ _, rfl⟩
  case body =>
    intro l pre x a' W hl hrec hs hg hax
    obtain ⟨xu, xg⟩ := x
    obtain ⟨Bx, hBx, hbox, rfl⟩ := hax
    obtain ⟨u, g, hbe, hgu, hgk, hb3, hb4, hbw⟩ := hs
    obtain ⟨hx1, hx2, hx3⟩ := hg
    dsimp only at hbox hx1 hx2 ⊢
    obtain ⟨xa, xc, rfl⟩ := hx1.form
    have HXL : Hid (xg.length ≤ 12) := hx2.le12 HG.out
    have HGL : Hid (g.length ≤ 12) := hgk.le12 HG.out
    have HSN : Hid (bestL f ((pre ++ [((Value.slice xa xg.length xc), xg)]).map Prod.snd) = bestStep f g xg) := by unfold Hid; rw [List.map_append, hbe]; exact bestL_snoc f _ _
    have HBE := Lib.hid hbe
    have HX1 := Lib.hid hx1
    have HX2 := Lib.hid hx2
    have HX3 := Lib.hid hx3
    have HGU := Lib.hid hgu
    have HGK := Lib.hid hgk
    have HB3 := Lib.hid hb3
    have HB4 := Lib.hid hb4
    have HBX := Lib.hid hbox
    have HBw := Lib.hid hbw
    have hsW : w.heap.size + 1 + 1 + 1 + 1 < W.heap.size := heap_lt hb4
    have hsX : Bx < W.heap.size := heap_lt hbox
    have hs1 : w.heap.size + 1 < W.heap.size := by omega
    have HBWW : Hid (Below w.heap.size w W) := HBW.out.trans (hbw.mono (by omega))
    have f0 := cell_blk ((hbw.block (w.heap.size + 1) (by omega)).trans L1.out) 0 rfl
    have b0 := cell_blk hbox 0 rfl
    have b1 := cell_blk hbox 1 rfl
    have b2 := cell_blk hbox 2 rfl
    have b3 := cell_blk hbox 3 rfl
    have m0 := cell_blk hb4 0 rfl
    have m1 := cell_blk hb4 1 rfl
    have m2 := cell_blk hb4 2 rfl
    have m3 := cell_blk hb4 3 rfl
    have HXW : Hid (w2.heap.size ≤ Bx) := hBx
    have HW2 : Hid (w.heap.size + 1 + 1 + 1 + 1 < w2.heap.size) := by unfold Hid; omega
    have hne : Bx ≠ w.heap.size + 1 + 1 + 1 := by omega
    have hne4 : Bx ≠ w.heap.size + 1 + 1 + 1 + 1 := by omega
    have HBWd : Hid (Below W.heap.size W W.drew) := (Below.refl _ _).drew
    clear hbe hx1 hx2 hx3 hgu hgk hb3 hb4 hbox hbw hBx hws hsz0 hsz2
    gi_wp2
    refine region_round (l := l) (S := (fun w' => (∀ b o, b < W.heap.size → w'.cell? ⟨b, o, none⟩ = W.cell? ⟨b, o, none⟩) ∧ Hid (Below W.heap.size W w'))) (by kernel_rfl) (by kernel_rfl) (old_of HBWd.out) (fun hHeld => ?_)
    (refine wpAnyH_take (i := 0) (v := ?_) rfl (by kernel_rfl) (by kernel_rfl) (by kernel_rfl) (fun _ _ _ h => h) (Or.inl ⟨by rfl, ?_⟩) (by assumption) ?_; rotate_left; (focus (intro w hSw; (try dsimp only at hSw); go_simp; (try with_reducible rfl))); (try simp only [List.getElem_toArray, List.getElem_cons_zero, List.getElem_cons_succ, Act.put, List.setIfInBounds_toArray, List.set_cons_zero, List.set_cons_succ])); (refine wpAnyH_take (i := 1) (v := ?_) rfl (by kernel_rfl) (by kernel_rfl) (by kernel_rfl) (fun _ _ _ h => h) (Or.inl ⟨by rfl, ?_⟩) (by assumption) ?_; rotate_left; (focus (intro w hSw; (try dsimp only at hSw); go_simp; (try with_reducible rfl))); (try simp only [List.getElem_toArray, List.getElem_cons_zero, List.getElem_cons_succ, Act.put, List.setIfInBounds_toArray, List.set_cons_zero, List.set_cons_succ]))
    (refine wpAnyH_take (i := 3) (v := ?_) rfl (by kernel_rfl) (by kernel_rfl) (by kernel_rfl) (fun _ _ _ h => h) (Or.inl ⟨by rfl, ?_⟩) (by assumption) ?_; rotate_left; (focus (intro w hSw; (try dsimp only at hSw); go_simp; (try with_reducible rfl))); (try simp only [List.getElem_toArray, List.getElem_cons_zero, List.getElem_cons_succ, Act.put, List.setIfInBounds_toArray, List.set_cons_zero, List.set_cons_succ])); (refine wpAnyH_take (i := 4) (v := ?_) rfl (by kernel_rfl) (by kernel_rfl) (by kernel_rfl) (fun _ _ _ h => h) (Or.inl ⟨by rfl, ?_⟩) (by assumption) ?_; rotate_left; (focus (intro w hSw; (try dsimp only at hSw); go_simp; (try with_reducible rfl))); (try simp only [List.getElem_toArray, List.getElem_cons_zero, List.getElem_cons_succ, Act.put, List.setIfInBounds_toArray, List.set_cons_zero, List.set_cons_succ]))
    refine wpAnyH_ready (rs := [2]) (by kernel_rfl) (by simp) ?_; refine AllReadyH.cons rfl (fun K hK => ?_) AllReadyH.nil; go_simp
    go_at_call 51
    refine (HASK2.out _ xg (HBWW.out.trans (HBWd.out.mono HBWW.out.size)) HXL.out).mono ?_
    rintro e w3 ⟨rfl, hb3⟩
    have S3 := old_of (bel HBWd.out hb3)
    have HC3 := S3.2
    clear hb3
    refine hK.out _ _ S3 (fun hHeld => ?_); clear hK K; (try simp only [List.getElem_toArray, List.getElem_cons_zero, List.getElem_cons_succ, Act.put, List.setIfInBounds_toArray, List.set_cons_zero, List.set_cons_succ])
    refine wpAnyH_ready (rs := [5]) (by kernel_rfl) (by simp) ?_; refine AllReadyH.cons rfl (fun K hK => ?_) AllReadyH.nil; go_simp
    go_at_call 51
    refine (HASK2.out _ g (HBWW.out.trans (HC3.out.mono HBWW.out.size)) HGL.out).mono ?_
    rintro e w4 ⟨rfl, hb4⟩
    have S4 := old_of (bel HC3.out hb4)
    have HC4 := S4.2
    clear hb4 S3
    refine hK.out _ _ S4 (fun hHeld => ?_); clear hK K; (try simp only [List.getElem_toArray, List.getElem_cons_zero, List.getElem_cons_succ, Act.put, List.setIfInBounds_toArray, List.set_cons_zero, List.set_cons_succ])
    (refine wpAnyH_take (i := 6) (v := ?_) rfl (by kernel_rfl) (by kernel_rfl) (by kernel_rfl) (fun _ _ _ h => h) (Or.inl ⟨by rfl, ?_⟩) (by assumption) ?_; rotate_left; (focus (intro w hSw; (try dsimp only at hSw); go_simp; (try with_reducible rfl))); (try simp only [List.getElem_toArray, List.getElem_cons_zero, List.getElem_cons_succ, Act.put, List.setIfInBounds_toArray, List.set_cons_zero, List.set_cons_succ]))
    refine wpAnyH_done (by kernel_rfl) ?_ _; clear hHeld
    unfold onlyN
    have D3 := Lib.hid ((HC4.out.block (w.heap.size + 1 + 1 + 1) (by omega)).trans HB3.out)
    have D4 := Lib.hid ((HC4.out.block _ hsW).trans HB4.out)
    have DX := Lib.hid ((HC4.out.block _ hsX).trans HBX.out)
    clear S4 f0 b0 b1 b2 b3 m0 m1 m2 m3
    by_cases hgt : f g < f xg
    · have hgi : (f g : Int) < (f xg : Int) := by omega
      have HST : Hid (bestStep f g xg = xg) := by unfold Hid bestStep; rw [if_pos hgt]
      have b0 := cell_blk DX.out 0 rfl
      have b1 := cell_blk DX.out 1 rfl
      have b2 := cell_blk DX.out 2 rfl
      have b3 := cell_blk DX.out 3 rfl
      have z0 := cell_blk D3.out 0 rfl
      have fz := free_blk D3.out 0
      clear hgt
      gi_wp2
      refine region_round (l := l) (S := fun w' => w'.heap[Bx]? = some (.cells #[.int .i64 (cS B xg 0), .int .i64 (cS B xg 1), .int .i64 (cS B xg 2), .int .i64 (cS B xg 3)] 69) ∧ w'.cell? ⟨Bx, 0, none⟩ = some (.int .i64 (cS B xg 0)) ∧ w'.cell? ⟨Bx, 1, none⟩ = some (.int .i64 (cS B xg 1)) ∧ w'.cell? ⟨Bx, 2, none⟩ = some (.int .i64 (cS B xg 2)) ∧ w'.cell? ⟨Bx, 3, none⟩ = some (.int .i64 (cS B xg 3))) (by kernel_rfl) (by kernel_rfl) ⟨DX.out, b0, b1, b2, b3⟩ (fun hHeld => ?_)
      (refine wpAnyH_take (i := 0) (v := ?_) rfl (by kernel_rfl) (by kernel_rfl) (by kernel_rfl) (fun _ _ _ h => h) (Or.inl ⟨by rfl, ?_⟩) (by assumption) ?_; rotate_left; (focus (intro w hSw; (try dsimp only at hSw); go_simp; (try with_reducible rfl))); (try simp only [List.getElem_toArray, List.getElem_cons_zero, List.getElem_cons_succ, Act.put, List.setIfInBounds_toArray, List.set_cons_zero, List.set_cons_succ])); (refine wpAnyH_take (i := 1) (v := ?_) rfl (by kernel_rfl) (by kernel_rfl) (by kernel_rfl) (fun _ _ _ h => h) (Or.inl ⟨by rfl, ?_⟩) (by assumption) ?_; rotate_left; (focus (intro w hSw; (try dsimp only at hSw); go_simp; (try with_reducible rfl))); (try simp only [List.getElem_toArray, List.getElem_cons_zero, List.getElem_cons_succ, Act.put, List.setIfInBounds_toArray, List.set_cons_zero, List.set_cons_succ]))
      refine wpAnyH_ready (rs := [2]) (by kernel_rfl) (by simp) ?_; refine AllReadyH.cons rfl (fun K hK => ?_) AllReadyH.nil; go_simp
      obtain ⟨w5', hw5', g3, go5, gb5⟩ := put1 D3.out (Value.slice xa xg.length xc)
      rw [hw5']
      obtain ⟨w5, hw5, g3', go5', gb5'⟩ : ∃ w5, w5'.drew = w5 ∧ w5.heap[w.heap.size + 1 + 1 + 1]? = some (.cells #[(Value.slice xa xg.length xc)] 22) ∧ (∀ k, k ≠ w.heap.size + 1 + 1 + 1 → w5.heap[k]? = w4.heap[k]?) ∧ Below (w.heap.size + 1 + 1 + 1) w4 w5 := ⟨_, rfl, g3, go5, gb5.drew⟩
      rw [hw5]
      have E3 := Lib.hid g3'
      have EO := Lib.hid go5'
      have EB := Lib.hid gb5'
      have E4 := Lib.hid ((go5' _ (by omega)).trans D4.out)
      have EX := Lib.hid ((go5' _ hne).trans DX.out)
      clear hw5' hw5 g3 go5 gb5 g3' go5' gb5' z0 fz b0 b1 b2 b3
      have b0 := cell_blk EX.out 0 rfl
      have b1 := cell_blk EX.out 1 rfl
      have b2 := cell_blk EX.out 2 rfl
      have b3 := cell_blk EX.out 3 rfl
      refine hK.out _ _ ⟨EX.out, b0, b1, b2, b3⟩ (fun hHeld => ?_)
      clear hK K
      (try simp only [List.getElem_toArray, List.getElem_cons_zero, List.getElem_cons_succ, Act.put, List.setIfInBounds_toArray, List.set_cons_zero, List.set_cons_succ])
      have m0 := cell_blk E4.out 0 rfl
      have m1 := cell_blk E4.out 1 rfl
      have m2 := cell_blk E4.out 2 rfl
      have m3 := cell_blk E4.out 3 rfl
      have z0 := free_blk E4.out 0
      have z1 := free_blk E4.out 1
      have z2 := free_blk E4.out 2
      have z3 := free_blk E4.out 3
      refine wpAnyH_ready (rs := [3]) (by kernel_rfl) (by simp) ?_; refine AllReadyH.cons rfl (fun K hK => ?_) AllReadyH.nil; go_simp
      obtain ⟨w6, hw6, g4, go6, gb6⟩ := put4 E4.out (.int .i64 (cS B xg 0)) (.int .i64 (cS B xg 1)) (.int .i64 (cS B xg 2)) (.int .i64 (cS B xg 3))
      rw [hw6]
      have FX := (go6 _ hne4).trans EX.out
      refine hK.out _ _ ⟨FX, cell_blk FX 0 rfl, cell_blk FX 1 rfl, cell_blk FX 2 rfl, cell_blk FX 3 rfl⟩ (fun hHeld => ?_)
      clear hK K
      (try simp only [List.getElem_toArray, List.getElem_cons_zero, List.getElem_cons_succ, Act.put, List.setIfInBounds_toArray, List.set_cons_zero, List.set_cons_succ])
      refine wpAnyH_done (by kernel_rfl) ?_ _; clear hHeld
      unfold onlyN
      have HW6 : Hid (∀ k o, W.heap[k]? = some o → k ≠ w.heap.size + 1 + 1 + 1 → k ≠ w.heap.size + 1 + 1 + 1 + 1 → w6.heap[k]? = some o) := fun k o hk n3 n4 => (go6 k n4).trans ((EO.out k n3).trans ((HC4.out.block k (heap_lt hk)).trans hk))
      have HZ6 : Hid (W.heap.size ≤ w6.heap.size) := Nat.le_trans HC4.out.size (Nat.le_trans EB.out.size gb6.size)
      have HB6 : Hid (Below (w.heap.size + 1 + 1 + 1) w2 w6) := HBw.out.trans ((HC4.out.mono (by omega)).trans (EB.out.trans (gb6.mono (by omega))))
      have HK6 : Hid (KeptC (fun k => k = w.heap.size + 1 + 1 + 1 ∨ k = w.heap.size + 1 + 1 + 1 + 1) W w6) := ⟨HZ6.out, fun k o hk _ he => HW6.out k o hk (fun e => he (.inl e)) (fun e => he (.inr e))⟩
      have G3 := Lib.hid ((go6 _ (by omega)).trans E3.out)
      have G4 := Lib.hid g4
      clear hw6 g4 go6 gb6 FX m0 m1 m2 m3 z0 z1 z2 z3 b0 b1 b2 b3
      gi_wp2
      exact ⟨⟨HZ6.out, fun k o hB hk _ => HW6.out k o hk (by have := HW2.out; omega) (by have := HW2.out; omega)⟩, HK6.out,
        (Value.slice xa xg.length xc), xg, by rw [HSN.out, HST.out], HX1.out.kept HK6.out (fun k hk => by have := HW2.out; omega), HX2.out, G3.out, G4.out, HB6.out⟩
    · have hgi : (f xg : Int) ≤ (f g : Int) := by omega
      have hgn : f xg ≤ f g := by omega
      have HST : Hid (bestStep f g xg = g) := by unfold Hid bestStep; rw [if_neg hgt]
      clear hgt
      gi_wp2
      exact ⟨⟨HC4.out.size, fun k o hB hk _ => (HC4.out.block k (heap_lt hk)).trans hk⟩, KeptC.of_below HC4.out, u, g, by rw [HSN.out, HST.out], HGU.out.below HC4.out, HGK.out, D3.out, D4.out, HBw.out.trans (HC4.out.mono (by omega))⟩
  case done =>
    rintro D ys W hD hys hs hK
    obtain ⟨u, g, hbe, hgu, hgk, hb3, hb4, hbw⟩ := hs
    rw [hys] at hbe
    have HB3 := Lib.hid hb3
    have HB4 := Lib.hid hb4
    have L2W := Lib.hid ((hbw.block (w.heap.size + 1 + 1) (by omega)).trans L2.out)
    have m0 := cell_blk hb4 0 rfl
    have m1 := cell_blk hb4 1 rfl
    have m2 := cell_blk hb4 2 rfl
    have m3 := cell_blk hb4 3 rfl
    have u0 := cell_blk hb3 0 rfl
    have y0 := cell_blk L2W.out 0 rfl
    have y1 := cell_blk L2W.out 1 rfl
    have y2 := cell_blk L2W.out 2 rfl
    have y3 := cell_blk L2W.out 3 rfl
    have z0 := free_blk L2W.out 0
    have z1 := free_blk L2W.out 1
    have z2 := free_blk L2W.out 2
    have z3 := free_blk L2W.out 3
    have HBE := Lib.hid hbe
    have HGU := Lib.hid hgu
    have HBw := Lib.hid hbw
    have HKD := Lib.hid hK
    have HD := Lib.hid hD
    have HW2 : Hid (w.heap.size + 1 + 1 + 1 + 1 < w2.heap.size) := by unfold Hid; omega
    have hsW : w.heap.size + 1 + 1 + 1 + 1 < W.heap.size := heap_lt hb4
    clear hbe hgu hgk hb3 hb4 hbw hK hD hys hws hsz0 hsz2
    gi_wp2
    refine region_wide (S := fun w' => w'.cell? ⟨w.heap.size + 1 + 1 + 1, 0, none⟩ = some u ∧ w'.cell? ⟨w.heap.size + 1 + 1 + 1 + 1, 0, none⟩ = some (.int .i64 (cS B g 0)) ∧ w'.cell? ⟨w.heap.size + 1 + 1 + 1 + 1, 1, none⟩ = some (.int .i64 (cS B g 1)) ∧ w'.cell? ⟨w.heap.size + 1 + 1 + 1 + 1, 2, none⟩ = some (.int .i64 (cS B g 2)) ∧ w'.cell? ⟨w.heap.size + 1 + 1 + 1 + 1, 3, none⟩ = some (.int .i64 (cS B g 3))) (by kernel_rfl) (by kernel_rfl) ⟨u0, m0, m1, m2, m3⟩ (fun hHeld => ?_)
    (refine wpAnyH_take (i := 0) (v := ?_) rfl (by kernel_rfl) (by kernel_rfl) (by kernel_rfl) (fun _ _ _ h => h) (Or.inl ⟨by rfl, ?_⟩) (by assumption) ?_; rotate_left; (focus (intro w hSw; (try dsimp only at hSw); go_simp; (try with_reducible rfl))); (try simp only [List.getElem_toArray, List.getElem_cons_zero, List.getElem_cons_succ, Act.put, List.setIfInBounds_toArray, List.set_cons_zero, List.set_cons_succ])); (refine wpAnyH_take (i := 1) (v := ?_) rfl (by kernel_rfl) (by kernel_rfl) (by kernel_rfl) (fun _ _ _ h => h) (Or.inl ⟨by rfl, ?_⟩) (by assumption) ?_; rotate_left; (focus (intro w hSw; (try dsimp only at hSw); go_simp; (try with_reducible rfl))); (try simp only [List.getElem_toArray, List.getElem_cons_zero, List.getElem_cons_succ, Act.put, List.setIfInBounds_toArray, List.set_cons_zero, List.set_cons_succ])); (refine wpAnyH_take (i := 2) (v := ?_) rfl (by kernel_rfl) (by kernel_rfl) (by kernel_rfl) (fun _ _ _ h => h) (Or.inl ⟨by rfl, ?_⟩) (by assumption) ?_; rotate_left; (focus (intro w hSw; (try dsimp only at hSw); go_simp; (try with_reducible rfl))); (try simp only [List.getElem_toArray, List.getElem_cons_zero, List.getElem_cons_succ, Act.put, List.setIfInBounds_toArray, List.set_cons_zero, List.set_cons_succ]))
    refine wpAnyH_ready (rs := [3]) (by kernel_rfl) (by simp) ?_; refine AllReadyH.cons rfl (fun K hK => ?_) AllReadyH.nil; go_simp
    obtain ⟨w6, hw6, g2, go6, gb6⟩ := put4 L2W.out (.int .i64 (cS B g 0)) (.int .i64 (cS B g 1)) (.int .i64 (cS B g 2)) (.int .i64 (cS B g 3))
    rw [hw6]
    obtain ⟨w7, hw7, g2', go7, gb7⟩ : ∃ w7, w6.drew = w7 ∧ w7.heap[w.heap.size + 1 + 1]? = some (.cells #[.int .i64 (cS B g 0), .int .i64 (cS B g 1), .int .i64 (cS B g 2), .int .i64 (cS B g 3)] 69) ∧ (∀ k, k ≠ w.heap.size + 1 + 1 → w7.heap[k]? = W.heap[k]?) ∧ Below (w.heap.size + 1 + 1) W w7 := ⟨_, rfl, g2, go6, gb6.drew⟩
    rw [hw7]
    have F3 := (go7 (w.heap.size + 1 + 1 + 1) (by omega)).trans HB3.out
    have F4 := (go7 (w.heap.size + 1 + 1 + 1 + 1) (by omega)).trans HB4.out
    refine hK.out _ _ ⟨cell_blk F3 0 rfl, cell_blk F4 0 rfl, cell_blk F4 1 rfl, cell_blk F4 2 rfl, cell_blk F4 3 rfl⟩ (fun hHeld => ?_)
    clear hK K
    (try simp only [List.getElem_toArray, List.getElem_cons_zero, List.getElem_cons_succ, Act.put, List.setIfInBounds_toArray, List.set_cons_zero, List.set_cons_succ])
    refine wpAnyH_done (by kernel_rfl) ?_ _; clear hHeld
    unfold onlyN
    have hK' := (go7 D (by have := HD.out; have := HW2.out; omega)).trans HKD.out
    have HG7 := Lib.hid ((World.putObj_heap_other (w := w7) (o := .deferred none) (show w.heap.size + 1 + 1 ≠ D by have := HD.out; have := HW2.out; omega)).trans g2')
    have HB7 : Hid (Below w.heap.size w w7) := (HBW.out.trans (HBw.out.mono (by omega))).trans (gb7.mono (by omega))
    have HU7 : Hid (GU w2.heap.size w7 u g) := HGU.out.kept (Ex := fun k => k = w.heap.size + 1 + 1) ⟨gb7.size, fun k o hk _ he => (go7 k he).trans hk⟩ (fun k hk => by have := HW2.out; omega)
    clear hw6 hw7 g2 go6 gb6 g2' gb7 F3 F4 m0 m1 m2 m3 u0 y0 y1 y2 y3 z0 z1 z2 z3
    gi_wp2
    refine ⟨by simp, .inl ⟨_, _, rfl, run_takeDeferred hK', ?_⟩⟩
    have hb8 := belowK_b (w := w) (Nat.le_refl _) w7 D (.deferred (some [])) (.deferred none) (by have := HD.out; have := HBW.out.size; omega) hK' rfl rfl
    exact ⟨_, resTC rfl rfl rfl HG7.out, ⟨u, by unfold cntV; rw [← HBE.out]; rfl, by rw [← HBE.out]; exact (GU.rec' (R := w2.heap.size) u g w7 D _ _ HU7.out HD.out hK' rfl).lower HBW.out.size⟩, HB7.out.trans hb8⟩

set_option maxRecDepth 100000 in
set_option maxHeartbeats 12800000 in
theorem best_rank (N : Nat) (v : Value) (B : SB) (p : Nat) (w : World) (h : BookAt N w v B) (hG : GoodL B p) :
    Calls Try.prog 52 #[v, .func (.func 53) #[] #[]] w fun e w' => (∃ u, e = .returned (.tuple #[u, cntV (cS B (bestL (fun g => rankC (cS B g) 4) (giftsL B)))]) ∧ GU w.heap.size w' u (bestL (fun g => rankC (cS B g) 4) (giftsL B))) ∧ Below w.heap.size w w' := by
  obtain ⟨a1, z1, a2, z2, a3, z3, rfl⟩ := h.form
  obtain ⟨ws, hws, HB, hsz, k0, k1, k2, k3, k4⟩ := allocs5 w (.cells #[.slice a1 B.ns z1, .slice a2 B.ng z2, .slice a3 B.nw z3] 62) (.cells #[.func (.func 53) #[] #[]] 82) (.cells #[.int .i64 0, .int .i64 0, .int .i64 0, .int .i64 0] 69) (.cells #[.slice none 0 0] 22) (.cells #[.int .i64 0, .int .i64 0, .int .i64 0, .int .i64 0] 69)
  have q0 := cell_blk k0 0 rfl
  have q1 := cell_blk k0 1 rfl
  have q2 := cell_blk k0 2 rfl
  have hNw := h.1
  have HBK := Lib.hid (h.go HB.out)
  have HASK : Hid (∀ (W : World) (g : List Nat), Below w.heap.size w W → g.length ≤ 12 → Calls Try.prog 53 (#[cntV (cS B g)]) W fun e w' => e = .returned (.int .i64 (rankC (cS B g) 4 : Nat)) ∧ Below W.heap.size W w') := fun W g hb hl => rank_any (cS B g) W (fun i _ => cS_le B g hl i)
  have HG := Lib.hid hG
  obtain ⟨f, hf⟩ : ∃ f : List Nat → Nat, (fun g => rankC (cS B g) 4) = f := ⟨_, rfl⟩
  have HFE : Hid (∀ g, (rankC (cS B g) 4 : Nat) = f g) := fun g => by rw [← hf]
  rw [hf]
  clear h hG hf
  have HASK2 : Hid (∀ (W : World) (g : List Nat), Below w.heap.size w W → g.length ≤ 12 → Calls Try.prog 53 (#[.agg #[.int .i64 (cS B g 0), .int .i64 (cS B g 1), .int .i64 (cS B g 2), .int .i64 (cS B g 3)]]) W fun e w' => e = .returned (.int .i64 (f g : Nat)) ∧ Below W.heap.size W w') := fun W g hb hl => by rw [← HFE.out g]; exact HASK.out W g hb hl
  clear HASK HFE
  refine (callsIn_wide (n := 4)).1 ?_
  refine callsIn_of_wp_marks Try.func52 rfl trivial ?_ rfl
  simp only [Try.ntmps52, List.size_toArray, List.length_cons, List.length_nil, Nat.reduceAdd, Nat.reduceSub, Array.replicate_succ, Array.replicate_zero, List.push_toArray, List.append_toArray, List.nil_append, List.cons_append]
  have HSZ := Lib.hid hsz
  have hsz0 : w.heap.size + 1 + 1 + 1 + 1 < ws.heap.size := by omega
  have hszN : N ≤ w.heap.size := hNw
  have K1 := Lib.hid k1
  have K2 := Lib.hid k2
  have K3 := Lib.hid k3
  have K4 := Lib.hid k4
  clear k0 k1 k2 k3 k4 hsz
  gi_wp2_with (refine ⟨trivial, ?_⟩; gi_at_call 73; refine (callsIn_wide.2 (gifts_any _ _ _ _ _ _ _ _ _ _)).mono ?_; rintro e w' ⟨rfl, hw1⟩; rw [hw1]; clear hw1 w'; obtain ⟨w2, hw2, HB2, hsz2, hblk2⟩ := box1 ws (.cells #[.slice a1 B.ns z1, .slice a2 B.ng z2, .slice a3 B.nw z3] 62); rw [hw2]; clear hw2)
  clear q0 q1 q2
  have HBW : Hid (Below w.heap.size w w2) := fin HB.out HB2.out
  have hseq := gifts1_seq 3 ws.heap.size N w2.heap.size B p (fun k => k = w.heap.size + 1 + 1 + 1 ∨ k = w.heap.size + 1 + 1 + 1 + 1) w2 a1 a2 a3 z1 z2 z3 hblk2 (HBK.out.go HB2.out) HG.out (by omega) (Nat.le_refl _) (fun k hk => by omega)
  have HSEQ := Lib.hid hseq
  have L1 := Lib.hid ((HB2.out.block _ (by omega)).trans K1.out)
  have L2 := Lib.hid ((HB2.out.block _ (by omega)).trans K2.out)
  have L3 := Lib.hid ((HB2.out.block _ (by omega)).trans K3.out)
  have L4 := Lib.hid ((HB2.out.block _ hsz0).trans K4.out)
  clear hseq hblk2
  refine rangeNo (w := w2) rfl (by omega) (gf := 87) (lb := #[.pointer (some ⟨ws.heap.size, 0, none⟩)]) rfl trivial (enters_of Try.func87 (by kernel_rfl) rfl) HSEQ.out
    (fun h k => KeptC.trans h k) (fun W l o o' _ hW ho => KeptC.putObj _ o' hW ho) (Below.refl _ _) (fun _ => rfl) (fun W A C k o hab _ hA _ => (hab.block k (heap_lt hA)).trans hA)
    (BestI B w2 (w.heap.size + 1 + 1 + 1) w2.heap.size f) (fun s => BestI.rec' (by omega) s)
    (fun x A l o o' hs hl hA ho => ⟨GU.rec' (R := w2.heap.size) x.1 x.2 A l o o' hs.1 hl hA ho, hs.2.1, by simpa [World.putObj] using hs.2.2⟩)
    (fun W s A C _ hs hk => hs.below hk) (fun s A o hs => hs.below (below_alloc (Nat.le_refl _) o))
    ⟨.slice none 0 0, [], rfl, .inl ⟨rfl, rfl⟩, GOK.nil B, L3.out, L4.out, Below.refl _ _⟩
    (fun x a' W => ∃ Bx, w2.heap.size ≤ Bx ∧ W.heap[Bx]? = some (.cells #[.int .i64 (cS B x.2 0), .int .i64 (cS B x.2 1), .int .i64 (cS B x.2 2), .int .i64 (cS B x.2 3)] 69) ∧ a' = { tmps := #[.agg #[.slice a1 B.ns z1, .slice a2 B.ng z2, .slice a3 B.nw z3], .func (.func 53) #[] #[], .pointer (some ⟨w.heap.size, 0, none⟩), .pointer (some ⟨w.heap.size + 1, 0, none⟩), .slice none 0 0, .pointer (some ⟨w.heap.size + 1 + 1, 0, none⟩), .pointer (some ⟨w.heap.size + 1 + 1 + 1, 0, none⟩), .pointer (some ⟨w.heap.size + 1 + 1 + 1 + 1, 0, none⟩), x.1, .pointer (some ⟨Bx, 0, none⟩), .agg #[.slice a1 B.ns z1, .slice a2 B.ng z2, .slice a3 B.nw z3], .func (.func 87) #[] #[.pointer (some ⟨ws.heap.size, 0, none⟩)], x.1, .agg #[.int .i64 (cS B x.2 0), .int .i64 (cS B x.2 1), .int .i64 (cS B x.2 2), .int .i64 (cS B x.2 3)], undef, undef, undef, undef, undef, undef, undef, undef, undef, undef, undef], defers := [] })
    (fun x a' A l o o' hs hl hA ho => by
      obtain ⟨Bx, h1, h2, h3⟩ := hs
      exact ⟨Bx, h1, (World.putObj_heap_other (by intro e; subst e; rw [hA] at h2; cases h2; cases ho)).trans h2, h3⟩) ?assign ?body ?done
  case assign =>
    intro l pre x W K hs hg hK
    unfold cntV
    gi_wp2
    have hk := below_alloc (Nat.le_refl W.heap.size) (.cells #[.int .i64 (cS B x.2 0), .int .i64 (cS B x.2 1), .int .i64 (cS B x.2 2), .int .i64 (cS B x.2 3)] 69)
    refine hK _ _ ((KeepsOthers.alloc _ _).from _) (KeptC.of_below hk) (hs.below hk) ⟨hg.1.below hk, hg.2.1, Nat.le_trans hg.2.2 hk.size⟩ ⟨W.heap.size, hg.2.2, World.alloc_heap_new _ _, rfl⟩
  case body =>
    intro l pre x a' W hl hrec hs hg hax
    obtain ⟨xu, xg⟩ := x
    obtain ⟨Bx, hBx, hbox, rfl⟩ := hax
    obtain ⟨u, g, hbe, hgu, hgk, hb3, hb4, hbw⟩ := hs
    obtain ⟨hx1, hx2, hx3⟩ := hg
    dsimp only at hbox hx1 hx2 ⊢
    obtain ⟨xa, xc, rfl⟩ := hx1.form
    have HXL : Hid (xg.length ≤ 12) := hx2.le12 HG.out
    have HGL : Hid (g.length ≤ 12) := hgk.le12 HG.out
    have HSN : Hid (bestL f ((pre ++ [((Value.slice xa xg.length xc), xg)]).map Prod.snd) = bestStep f g xg) := by unfold Hid; rw [List.map_append, hbe]; exact bestL_snoc f _ _
    have HBE := Lib.hid hbe
    have HX1 := Lib.hid hx1
    have HX2 := Lib.hid hx2
    have HX3 := Lib.hid hx3
    have HGU := Lib.hid hgu
    have HGK := Lib.hid hgk
    have HB3 := Lib.hid hb3
    have HB4 := Lib.hid hb4
    have HBX := Lib.hid hbox
    have HBw := Lib.hid hbw
    have hsW : w.heap.size + 1 + 1 + 1 + 1 < W.heap.size := heap_lt hb4
    have hsX : Bx < W.heap.size := heap_lt hbox
    have hs1 : w.heap.size + 1 < W.heap.size := by omega
    have HBWW : Hid (Below w.heap.size w W) := HBW.out.trans (hbw.mono (by omega))
    have f0 := cell_blk ((hbw.block (w.heap.size + 1) (by omega)).trans L1.out) 0 rfl
    have b0 := cell_blk hbox 0 rfl
    have b1 := cell_blk hbox 1 rfl
    have b2 := cell_blk hbox 2 rfl
    have b3 := cell_blk hbox 3 rfl
    have m0 := cell_blk hb4 0 rfl
    have m1 := cell_blk hb4 1 rfl
    have m2 := cell_blk hb4 2 rfl
    have m3 := cell_blk hb4 3 rfl
    have HXW : Hid (w2.heap.size ≤ Bx) := hBx
    have HW2 : Hid (w.heap.size + 1 + 1 + 1 + 1 < w2.heap.size) := by unfold Hid; omega
    have hne : Bx ≠ w.heap.size + 1 + 1 + 1 := by omega
    have hne4 : Bx ≠ w.heap.size + 1 + 1 + 1 + 1 := by omega
    have HBWd : Hid (Below W.heap.size W W.drew) := (Below.refl _ _).drew
    clear hbe hx1 hx2 hx3 hgu hgk hb3 hb4 hbox hbw hBx hws hsz0 hsz2
    gi_wp2
    refine region_round (l := l) (S := (fun w' => (∀ b o, b < W.heap.size → w'.cell? ⟨b, o, none⟩ = W.cell? ⟨b, o, none⟩) ∧ Hid (Below W.heap.size W w'))) (by kernel_rfl) (by kernel_rfl) (old_of HBWd.out) (fun hHeld => ?_)
    (refine wpAnyH_take (i := 0) (v := ?_) rfl (by kernel_rfl) (by kernel_rfl) (by kernel_rfl) (fun _ _ _ h => h) (Or.inl ⟨by rfl, ?_⟩) (by assumption) ?_; rotate_left; (focus (intro w hSw; (try dsimp only at hSw); go_simp; (try with_reducible rfl))); (try simp only [List.getElem_toArray, List.getElem_cons_zero, List.getElem_cons_succ, Act.put, List.setIfInBounds_toArray, List.set_cons_zero, List.set_cons_succ])); (refine wpAnyH_take (i := 1) (v := ?_) rfl (by kernel_rfl) (by kernel_rfl) (by kernel_rfl) (fun _ _ _ h => h) (Or.inl ⟨by rfl, ?_⟩) (by assumption) ?_; rotate_left; (focus (intro w hSw; (try dsimp only at hSw); go_simp; (try with_reducible rfl))); (try simp only [List.getElem_toArray, List.getElem_cons_zero, List.getElem_cons_succ, Act.put, List.setIfInBounds_toArray, List.set_cons_zero, List.set_cons_succ]))
    (refine wpAnyH_take (i := 3) (v := ?_) rfl (by kernel_rfl) (by kernel_rfl) (by kernel_rfl) (fun _ _ _ h => h) (Or.inl ⟨by rfl, ?_⟩) (by assumption) ?_; rotate_left; (focus (intro w hSw; (try dsimp only at hSw); go_simp; (try with_reducible rfl))); (try simp only [List.getElem_toArray, List.getElem_cons_zero, List.getElem_cons_succ, Act.put, List.setIfInBounds_toArray, List.set_cons_zero, List.set_cons_succ])); (refine wpAnyH_take (i := 4) (v := ?_) rfl (by kernel_rfl) (by kernel_rfl) (by kernel_rfl) (fun _ _ _ h => h) (Or.inl ⟨by rfl, ?_⟩) (by assumption) ?_; rotate_left; (focus (intro w hSw; (try dsimp only at hSw); go_simp; (try with_reducible rfl))); (try simp only [List.getElem_toArray, List.getElem_cons_zero, List.getElem_cons_succ, Act.put, List.setIfInBounds_toArray, List.set_cons_zero, List.set_cons_succ]))
    refine wpAnyH_ready (rs := [2]) (by kernel_rfl) (by simp) ?_; refine AllReadyH.cons rfl (fun K hK => ?_) AllReadyH.nil; go_simp
    go_at_call 53
    refine (HASK2.out _ xg (HBWW.out.trans (HBWd.out.mono HBWW.out.size)) HXL.out).mono ?_
    rintro e w3 ⟨rfl, hb3⟩
    have S3 := old_of (bel HBWd.out hb3)
    have HC3 := S3.2
    clear hb3
    refine hK.out _ _ S3 (fun hHeld => ?_); clear hK K; (try simp only [List.getElem_toArray, List.getElem_cons_zero, List.getElem_cons_succ, Act.put, List.setIfInBounds_toArray, List.set_cons_zero, List.set_cons_succ])
    refine wpAnyH_ready (rs := [5]) (by kernel_rfl) (by simp) ?_; refine AllReadyH.cons rfl (fun K hK => ?_) AllReadyH.nil; go_simp
    go_at_call 53
    refine (HASK2.out _ g (HBWW.out.trans (HC3.out.mono HBWW.out.size)) HGL.out).mono ?_
    rintro e w4 ⟨rfl, hb4⟩
    have S4 := old_of (bel HC3.out hb4)
    have HC4 := S4.2
    clear hb4 S3
    refine hK.out _ _ S4 (fun hHeld => ?_); clear hK K; (try simp only [List.getElem_toArray, List.getElem_cons_zero, List.getElem_cons_succ, Act.put, List.setIfInBounds_toArray, List.set_cons_zero, List.set_cons_succ])
    (refine wpAnyH_take (i := 6) (v := ?_) rfl (by kernel_rfl) (by kernel_rfl) (by kernel_rfl) (fun _ _ _ h => h) (Or.inl ⟨by rfl, ?_⟩) (by assumption) ?_; rotate_left; (focus (intro w hSw; (try dsimp only at hSw); go_simp; (try with_reducible rfl))); (try simp only [List.getElem_toArray, List.getElem_cons_zero, List.getElem_cons_succ, Act.put, List.setIfInBounds_toArray, List.set_cons_zero, List.set_cons_succ]))
    refine wpAnyH_done (by kernel_rfl) ?_ _; clear hHeld
    unfold onlyN
    have D3 := Lib.hid ((HC4.out.block (w.heap.size + 1 + 1 + 1) (by omega)).trans HB3.out)
    have D4 := Lib.hid ((HC4.out.block _ hsW).trans HB4.out)
    have DX := Lib.hid ((HC4.out.block _ hsX).trans HBX.out)
    clear S4 f0 b0 b1 b2 b3 m0 m1 m2 m3
    by_cases hgt : f g < f xg
    · have hgi : (f g : Int) < (f xg : Int) := by omega
      have HST : Hid (bestStep f g xg = xg) := by unfold Hid bestStep; rw [if_pos hgt]
      have b0 := cell_blk DX.out 0 rfl
      have b1 := cell_blk DX.out 1 rfl
      have b2 := cell_blk DX.out 2 rfl
      have b3 := cell_blk DX.out 3 rfl
      have z0 := cell_blk D3.out 0 rfl
      have fz := free_blk D3.out 0
      clear hgt
      gi_wp2
      refine region_round (l := l) (S := fun w' => w'.heap[Bx]? = some (.cells #[.int .i64 (cS B xg 0), .int .i64 (cS B xg 1), .int .i64 (cS B xg 2), .int .i64 (cS B xg 3)] 69) ∧ w'.cell? ⟨Bx, 0, none⟩ = some (.int .i64 (cS B xg 0)) ∧ w'.cell? ⟨Bx, 1, none⟩ = some (.int .i64 (cS B xg 1)) ∧ w'.cell? ⟨Bx, 2, none⟩ = some (.int .i64 (cS B xg 2)) ∧ w'.cell? ⟨Bx, 3, none⟩ = some (.int .i64 (cS B xg 3))) (by kernel_rfl) (by kernel_rfl) ⟨DX.out, b0, b1, b2, b3⟩ (fun hHeld => ?_)
      (refine wpAnyH_take (i := 0) (v := ?_) rfl (by kernel_rfl) (by kernel_rfl) (by kernel_rfl) (fun _ _ _ h => h) (Or.inl ⟨by rfl, ?_⟩) (by assumption) ?_; rotate_left; (focus (intro w hSw; (try dsimp only at hSw); go_simp; (try with_reducible rfl))); (try simp only [List.getElem_toArray, List.getElem_cons_zero, List.getElem_cons_succ, Act.put, List.setIfInBounds_toArray, List.set_cons_zero, List.set_cons_succ])); (refine wpAnyH_take (i := 1) (v := ?_) rfl (by kernel_rfl) (by kernel_rfl) (by kernel_rfl) (fun _ _ _ h => h) (Or.inl ⟨by rfl, ?_⟩) (by assumption) ?_; rotate_left; (focus (intro w hSw; (try dsimp only at hSw); go_simp; (try with_reducible rfl))); (try simp only [List.getElem_toArray, List.getElem_cons_zero, List.getElem_cons_succ, Act.put, List.setIfInBounds_toArray, List.set_cons_zero, List.set_cons_succ]))
      refine wpAnyH_ready (rs := [2]) (by kernel_rfl) (by simp) ?_; refine AllReadyH.cons rfl (fun K hK => ?_) AllReadyH.nil; go_simp
      obtain ⟨w5', hw5', g3, go5, gb5⟩ := put1 D3.out (Value.slice xa xg.length xc)
      rw [hw5']
      obtain ⟨w5, hw5, g3', go5', gb5'⟩ : ∃ w5, w5'.drew = w5 ∧ w5.heap[w.heap.size + 1 + 1 + 1]? = some (.cells #[(Value.slice xa xg.length xc)] 22) ∧ (∀ k, k ≠ w.heap.size + 1 + 1 + 1 → w5.heap[k]? = w4.heap[k]?) ∧ Below (w.heap.size + 1 + 1 + 1) w4 w5 := ⟨_, rfl, g3, go5, gb5.drew⟩
      rw [hw5]
      have E3 := Lib.hid g3'
      have EO := Lib.hid go5'
      have EB := Lib.hid gb5'
      have E4 := Lib.hid ((go5' _ (by omega)).trans D4.out)
      have EX := Lib.hid ((go5' _ hne).trans DX.out)
      clear hw5' hw5 g3 go5 gb5 g3' go5' gb5' z0 fz b0 b1 b2 b3
      have b0 := cell_blk EX.out 0 rfl
      have b1 := cell_blk EX.out 1 rfl
      have b2 := cell_blk EX.out 2 rfl
      have b3 := cell_blk EX.out 3 rfl
      refine hK.out _ _ ⟨EX.out, b0, b1, b2, b3⟩ (fun hHeld => ?_)
      clear hK K
      (try simp only [List.getElem_toArray, List.getElem_cons_zero, List.getElem_cons_succ, Act.put, List.setIfInBounds_toArray, List.set_cons_zero, List.set_cons_succ])
      have m0 := cell_blk E4.out 0 rfl
      have m1 := cell_blk E4.out 1 rfl
      have m2 := cell_blk E4.out 2 rfl
      have m3 := cell_blk E4.out 3 rfl
      have z0 := free_blk E4.out 0
      have z1 := free_blk E4.out 1
      have z2 := free_blk E4.out 2
      have z3 := free_blk E4.out 3
      refine wpAnyH_ready (rs := [3]) (by kernel_rfl) (by simp) ?_; refine AllReadyH.cons rfl (fun K hK => ?_) AllReadyH.nil; go_simp
      obtain ⟨w6, hw6, g4, go6, gb6⟩ := put4 E4.out (.int .i64 (cS B xg 0)) (.int .i64 (cS B xg 1)) (.int .i64 (cS B xg 2)) (.int .i64 (cS B xg 3))
      rw [hw6]
      have FX := (go6 _ hne4).trans EX.out
      refine hK.out _ _ ⟨FX, cell_blk FX 0 rfl, cell_blk FX 1 rfl, cell_blk FX 2 rfl, cell_blk FX 3 rfl⟩ (fun hHeld => ?_)
      clear hK K
      (try simp only [List.getElem_toArray, List.getElem_cons_zero, List.getElem_cons_succ, Act.put, List.setIfInBounds_toArray, List.set_cons_zero, List.set_cons_succ])
      refine wpAnyH_done (by kernel_rfl) ?_ _; clear hHeld
      unfold onlyN
      have HW6 : Hid (∀ k o, W.heap[k]? = some o → k ≠ w.heap.size + 1 + 1 + 1 → k ≠ w.heap.size + 1 + 1 + 1 + 1 → w6.heap[k]? = some o) := fun k o hk n3 n4 => (go6 k n4).trans ((EO.out k n3).trans ((HC4.out.block k (heap_lt hk)).trans hk))
      have HZ6 : Hid (W.heap.size ≤ w6.heap.size) := Nat.le_trans HC4.out.size (Nat.le_trans EB.out.size gb6.size)
      have HB6 : Hid (Below (w.heap.size + 1 + 1 + 1) w2 w6) := HBw.out.trans ((HC4.out.mono (by omega)).trans (EB.out.trans (gb6.mono (by omega))))
      have HK6 : Hid (KeptC (fun k => k = w.heap.size + 1 + 1 + 1 ∨ k = w.heap.size + 1 + 1 + 1 + 1) W w6) := ⟨HZ6.out, fun k o hk _ he => HW6.out k o hk (fun e => he (.inl e)) (fun e => he (.inr e))⟩
      have G3 := Lib.hid ((go6 _ (by omega)).trans E3.out)
      have G4 := Lib.hid g4
      clear hw6 g4 go6 gb6 FX m0 m1 m2 m3 z0 z1 z2 z3 b0 b1 b2 b3
      gi_wp2
      exact ⟨⟨HZ6.out, fun k o hB hk _ => HW6.out k o hk (by have := HW2.out; omega) (by have := HW2.out; omega)⟩, HK6.out,
        (Value.slice xa xg.length xc), xg, by rw [HSN.out, HST.out], HX1.out.kept HK6.out (fun k hk => by have := HW2.out; omega), HX2.out, G3.out, G4.out, HB6.out⟩
    · have hgi : (f xg : Int) ≤ (f g : Int) := by omega
      have hgn : f xg ≤ f g := by omega
      have HST : Hid (bestStep f g xg = g) := by unfold Hid bestStep; rw [if_neg hgt]
      clear hgt
      gi_wp2
      exact ⟨⟨HC4.out.size, fun k o hB hk _ => (HC4.out.block k (heap_lt hk)).trans hk⟩, KeptC.of_below HC4.out, u, g, by rw [HSN.out, HST.out], HGU.out.below HC4.out, HGK.out, D3.out, D4.out, HBw.out.trans (HC4.out.mono (by omega))⟩
  case done =>
    rintro D ys W hD hys hs hK
    obtain ⟨u, g, hbe, hgu, hgk, hb3, hb4, hbw⟩ := hs
    rw [hys] at hbe
    have HB3 := Lib.hid hb3
    have HB4 := Lib.hid hb4
    have L2W := Lib.hid ((hbw.block (w.heap.size + 1 + 1) (by omega)).trans L2.out)
    have m0 := cell_blk hb4 0 rfl
    have m1 := cell_blk hb4 1 rfl
    have m2 := cell_blk hb4 2 rfl
    have m3 := cell_blk hb4 3 rfl
    have u0 := cell_blk hb3 0 rfl
    have y0 := cell_blk L2W.out 0 rfl
    have y1 := cell_blk L2W.out 1 rfl
    have y2 := cell_blk L2W.out 2 rfl
    have y3 := cell_blk L2W.out 3 rfl
    have z0 := free_blk L2W.out 0
    have z1 := free_blk L2W.out 1
    have z2 := free_blk L2W.out 2
    have z3 := free_blk L2W.out 3
    have HBE := Lib.hid hbe
    have HGU := Lib.hid hgu
    have HBw := Lib.hid hbw
    have HKD := Lib.hid hK
    have HD := Lib.hid hD
    have HW2 : Hid (w.heap.size + 1 + 1 + 1 + 1 < w2.heap.size) := by unfold Hid; omega
    have hsW : w.heap.size + 1 + 1 + 1 + 1 < W.heap.size := heap_lt hb4
    clear hbe hgu hgk hb3 hb4 hbw hK hD hys hws hsz0 hsz2
    gi_wp2
    refine region_wide (S := fun w' => w'.cell? ⟨w.heap.size + 1 + 1 + 1, 0, none⟩ = some u ∧ w'.cell? ⟨w.heap.size + 1 + 1 + 1 + 1, 0, none⟩ = some (.int .i64 (cS B g 0)) ∧ w'.cell? ⟨w.heap.size + 1 + 1 + 1 + 1, 1, none⟩ = some (.int .i64 (cS B g 1)) ∧ w'.cell? ⟨w.heap.size + 1 + 1 + 1 + 1, 2, none⟩ = some (.int .i64 (cS B g 2)) ∧ w'.cell? ⟨w.heap.size + 1 + 1 + 1 + 1, 3, none⟩ = some (.int .i64 (cS B g 3))) (by kernel_rfl) (by kernel_rfl) ⟨u0, m0, m1, m2, m3⟩ (fun hHeld => ?_)
    (refine wpAnyH_take (i := 0) (v := ?_) rfl (by kernel_rfl) (by kernel_rfl) (by kernel_rfl) (fun _ _ _ h => h) (Or.inl ⟨by rfl, ?_⟩) (by assumption) ?_; rotate_left; (focus (intro w hSw; (try dsimp only at hSw); go_simp; (try with_reducible rfl))); (try simp only [List.getElem_toArray, List.getElem_cons_zero, List.getElem_cons_succ, Act.put, List.setIfInBounds_toArray, List.set_cons_zero, List.set_cons_succ])); (refine wpAnyH_take (i := 1) (v := ?_) rfl (by kernel_rfl) (by kernel_rfl) (by kernel_rfl) (fun _ _ _ h => h) (Or.inl ⟨by rfl, ?_⟩) (by assumption) ?_; rotate_left; (focus (intro w hSw; (try dsimp only at hSw); go_simp; (try with_reducible rfl))); (try simp only [List.getElem_toArray, List.getElem_cons_zero, List.getElem_cons_succ, Act.put, List.setIfInBounds_toArray, List.set_cons_zero, List.set_cons_succ])); (refine wpAnyH_take (i := 2) (v := ?_) rfl (by kernel_rfl) (by kernel_rfl) (by kernel_rfl) (fun _ _ _ h => h) (Or.inl ⟨by rfl, ?_⟩) (by assumption) ?_; rotate_left; (focus (intro w hSw; (try dsimp only at hSw); go_simp; (try with_reducible rfl))); (try simp only [List.getElem_toArray, List.getElem_cons_zero, List.getElem_cons_succ, Act.put, List.setIfInBounds_toArray, List.set_cons_zero, List.set_cons_succ]))
    refine wpAnyH_ready (rs := [3]) (by kernel_rfl) (by simp) ?_; refine AllReadyH.cons rfl (fun K hK => ?_) AllReadyH.nil; go_simp
    obtain ⟨w6, hw6, g2, go6, gb6⟩ := put4 L2W.out (.int .i64 (cS B g 0)) (.int .i64 (cS B g 1)) (.int .i64 (cS B g 2)) (.int .i64 (cS B g 3))
    rw [hw6]
    obtain ⟨w7, hw7, g2', go7, gb7⟩ : ∃ w7, w6.drew = w7 ∧ w7.heap[w.heap.size + 1 + 1]? = some (.cells #[.int .i64 (cS B g 0), .int .i64 (cS B g 1), .int .i64 (cS B g 2), .int .i64 (cS B g 3)] 69) ∧ (∀ k, k ≠ w.heap.size + 1 + 1 → w7.heap[k]? = W.heap[k]?) ∧ Below (w.heap.size + 1 + 1) W w7 := ⟨_, rfl, g2, go6, gb6.drew⟩
    rw [hw7]
    have F3 := (go7 (w.heap.size + 1 + 1 + 1) (by omega)).trans HB3.out
    have F4 := (go7 (w.heap.size + 1 + 1 + 1 + 1) (by omega)).trans HB4.out
    refine hK.out _ _ ⟨cell_blk F3 0 rfl, cell_blk F4 0 rfl, cell_blk F4 1 rfl, cell_blk F4 2 rfl, cell_blk F4 3 rfl⟩ (fun hHeld => ?_)
    clear hK K
    (try simp only [List.getElem_toArray, List.getElem_cons_zero, List.getElem_cons_succ, Act.put, List.setIfInBounds_toArray, List.set_cons_zero, List.set_cons_succ])
    refine wpAnyH_done (by kernel_rfl) ?_ _; clear hHeld
    unfold onlyN
    have hK' := (go7 D (by have := HD.out; have := HW2.out; omega)).trans HKD.out
    have HG7 := Lib.hid ((World.putObj_heap_other (w := w7) (o := .deferred none) (show w.heap.size + 1 + 1 ≠ D by have := HD.out; have := HW2.out; omega)).trans g2')
    have HB7 : Hid (Below w.heap.size w w7) := (HBW.out.trans (HBw.out.mono (by omega))).trans (gb7.mono (by omega))
    have HU7 : Hid (GU w2.heap.size w7 u g) := HGU.out.kept (Ex := fun k => k = w.heap.size + 1 + 1) ⟨gb7.size, fun k o hk _ he => (go7 k he).trans hk⟩ (fun k hk => by have := HW2.out; omega)
    clear hw6 hw7 g2 go6 gb6 g2' gb7 F3 F4 m0 m1 m2 m3 u0 y0 y1 y2 y3 z0 z1 z2 z3
    gi_wp2
    refine ⟨by simp, .inl ⟨_, _, rfl, run_takeDeferred hK', ?_⟩⟩
    have hb8 := belowK_b (w := w) (Nat.le_refl _) w7 D (.deferred (some [])) (.deferred none) (by have := HD.out; have := HBW.out.size; omega) hK' rfl rfl
    exact ⟨_, resTC rfl rfl rfl HG7.out, ⟨u, by unfold cntV; rw [← HBE.out]; rfl, by rw [← HBE.out]; exact (GU.rec' (R := w2.heap.size) u g w7 D _ _ HU7.out HD.out hK' rfl).lower HBW.out.size⟩, HB7.out.trans hb8⟩

set_option maxRecDepth 100000 in
set_option maxHeartbeats 12800000 in
theorem best_safe (N : Nat) (v : Value) (B : SB) (p : Nat) (w : World) (h : BookAt N w v B) (hG : GoodL B p) :
    Calls Try.prog 52 #[v, .func (.func 55) #[] #[]] w fun e w' => (∃ u, e = .returned (.tuple #[u, cntV (cS B (bestL (fun g => safeC (cS B g) 4) (giftsL B)))]) ∧ GU w.heap.size w' u (bestL (fun g => safeC (cS B g) 4) (giftsL B))) ∧ Below w.heap.size w w' := by
  obtain ⟨a1, z1, a2, z2, a3, z3, rfl⟩ := h.form
  obtain ⟨ws, hws, HB, hsz, k0, k1, k2, k3, k4⟩ := allocs5 w (.cells #[.slice a1 B.ns z1, .slice a2 B.ng z2, .slice a3 B.nw z3] 62) (.cells #[.func (.func 55) #[] #[]] 82) (.cells #[.int .i64 0, .int .i64 0, .int .i64 0, .int .i64 0] 69) (.cells #[.slice none 0 0] 22) (.cells #[.int .i64 0, .int .i64 0, .int .i64 0, .int .i64 0] 69)
  have q0 := cell_blk k0 0 rfl
  have q1 := cell_blk k0 1 rfl
  have q2 := cell_blk k0 2 rfl
  have hNw := h.1
  have HBK := Lib.hid (h.go HB.out)
  have HASK : Hid (∀ (W : World) (g : List Nat), Below w.heap.size w W → g.length ≤ 12 → Calls Try.prog 55 (#[cntV (cS B g)]) W fun e w' => e = .returned (.int .i64 (safeC (cS B g) 4 : Nat)) ∧ Below W.heap.size W w') := fun W g hb hl => safe_any (cS B g) W (fun i _ => cS_le B g hl i)
  have HG := Lib.hid hG
  obtain ⟨f, hf⟩ : ∃ f : List Nat → Nat, (fun g => safeC (cS B g) 4) = f := ⟨_, rfl⟩
  have HFE : Hid (∀ g, (safeC (cS B g) 4 : Nat) = f g) := fun g => by rw [← hf]
  rw [hf]
  clear h hG hf
  have HASK2 : Hid (∀ (W : World) (g : List Nat), Below w.heap.size w W → g.length ≤ 12 → Calls Try.prog 55 (#[.agg #[.int .i64 (cS B g 0), .int .i64 (cS B g 1), .int .i64 (cS B g 2), .int .i64 (cS B g 3)]]) W fun e w' => e = .returned (.int .i64 (f g : Nat)) ∧ Below W.heap.size W w') := fun W g hb hl => by rw [← HFE.out g]; exact HASK.out W g hb hl
  clear HASK HFE
  refine (callsIn_wide (n := 4)).1 ?_
  refine callsIn_of_wp_marks Try.func52 rfl trivial ?_ rfl
  simp only [Try.ntmps52, List.size_toArray, List.length_cons, List.length_nil, Nat.reduceAdd, Nat.reduceSub, Array.replicate_succ, Array.replicate_zero, List.push_toArray, List.append_toArray, List.nil_append, List.cons_append]
  have HSZ := Lib.hid hsz
  have hsz0 : w.heap.size + 1 + 1 + 1 + 1 < ws.heap.size := by omega
  have hszN : N ≤ w.heap.size := hNw
  have K1 := Lib.hid k1
  have K2 := Lib.hid k2
  have K3 := Lib.hid k3
  have K4 := Lib.hid k4
  clear k0 k1 k2 k3 k4 hsz
  gi_wp2_with (refine ⟨trivial, ?_⟩; gi_at_call 73; refine (callsIn_wide.2 (gifts_any _ _ _ _ _ _ _ _ _ _)).mono ?_; rintro e w' ⟨rfl, hw1⟩; rw [hw1]; clear hw1 w'; obtain ⟨w2, hw2, HB2, hsz2, hblk2⟩ := box1 ws (.cells #[.slice a1 B.ns z1, .slice a2 B.ng z2, .slice a3 B.nw z3] 62); rw [hw2]; clear hw2)
  clear q0 q1 q2
  have HBW : Hid (Below w.heap.size w w2) := fin HB.out HB2.out
  have hseq := gifts1_seq 3 ws.heap.size N w2.heap.size B p (fun k => k = w.heap.size + 1 + 1 + 1 ∨ k = w.heap.size + 1 + 1 + 1 + 1) w2 a1 a2 a3 z1 z2 z3 hblk2 (HBK.out.go HB2.out) HG.out (by omega) (Nat.le_refl _) (fun k hk => by omega)
  have HSEQ := Lib.hid hseq
  have L1 := Lib.hid ((HB2.out.block _ (by omega)).trans K1.out)
  have L2 := Lib.hid ((HB2.out.block _ (by omega)).trans K2.out)
  have L3 := Lib.hid ((HB2.out.block _ (by omega)).trans K3.out)
  have L4 := Lib.hid ((HB2.out.block _ hsz0).trans K4.out)
  clear hseq hblk2
  refine rangeNo (w := w2) rfl (by omega) (gf := 87) (lb := #[.pointer (some ⟨ws.heap.size, 0, none⟩)]) rfl trivial (enters_of Try.func87 (by kernel_rfl) rfl) HSEQ.out
    (fun h k => KeptC.trans h k) (fun W l o o' _ hW ho => KeptC.putObj _ o' hW ho) (Below.refl _ _) (fun _ => rfl) (fun W A C k o hab _ hA _ => (hab.block k (heap_lt hA)).trans hA)
    (BestI B w2 (w.heap.size + 1 + 1 + 1) w2.heap.size f) (fun s => BestI.rec' (by omega) s)
    (fun x A l o o' hs hl hA ho => ⟨GU.rec' (R := w2.heap.size) x.1 x.2 A l o o' hs.1 hl hA ho, hs.2.1, by simpa [World.putObj] using hs.2.2⟩)
    (fun W s A C _ hs hk => hs.below hk) (fun s A o hs => hs.below (below_alloc (Nat.le_refl _) o))
    ⟨.slice none 0 0, [], rfl, .inl ⟨rfl, rfl⟩, GOK.nil B, L3.out, L4.out, Below.refl _ _⟩
    (fun x a' W => ∃ Bx, w2.heap.size ≤ Bx ∧ W.heap[Bx]? = some (.cells #[.int .i64 (cS B x.2 0), .int .i64 (cS B x.2 1), .int .i64 (cS B x.2 2), .int .i64 (cS B x.2 3)] 69) ∧ a' = { tmps := #[.agg #[.slice a1 B.ns z1, .slice a2 B.ng z2, .slice a3 B.nw z3], .func (.func 55) #[] #[], .pointer (some ⟨w.heap.size, 0, none⟩), .pointer (some ⟨w.heap.size + 1, 0, none⟩), .slice none 0 0, .pointer (some ⟨w.heap.size + 1 + 1, 0, none⟩), .pointer (some ⟨w.heap.size + 1 + 1 + 1, 0, none⟩), .pointer (some ⟨w.heap.size + 1 + 1 + 1 + 1, 0, none⟩), x.1, .pointer (some ⟨Bx, 0, none⟩), .agg #[.slice a1 B.ns z1, .slice a2 B.ng z2, .slice a3 B.nw z3], .func (.func 87) #[] #[.pointer (some ⟨ws.heap.size, 0, none⟩)], x.1, .agg #[.int .i64 (cS B x.2 0), .int .i64 (cS B x.2 1), .int .i64 (cS B x.2 2), .int .i64 (cS B x.2 3)], undef, undef, undef, undef, undef, undef, undef, undef, undef, undef, undef], defers := [] })
    (fun x a' A l o o' hs hl hA ho => by
      obtain ⟨Bx, h1, h2, h3⟩ := hs
      exact ⟨Bx, h1, (World.putObj_heap_other (by intro e; subst e; rw [hA] at h2; cases h2; cases ho)).trans h2, h3⟩) ?assign ?body ?done
  case assign =>
    intro l pre x W K hs hg hK
    unfold cntV
    gi_wp2
    have hk := below_alloc (Nat.le_refl W.heap.size) (.cells #[.int .i64 (cS B x.2 0), .int .i64 (cS B x.2 1), .int .i64 (cS B x.2 2), .int .i64 (cS B x.2 3)] 69)
    refine hK _ _ ((KeepsOthers.alloc _ _).from _) (KeptC.of_below hk) (hs.below hk) ⟨hg.1.below hk, hg.2.1, Nat.le_trans hg.2.2 hk.size⟩ ⟨W.heap.size, hg.2.2, World.alloc_heap_new _ _, rfl⟩
  case body =>
    intro l pre x a' W hl hrec hs hg hax
    obtain ⟨xu, xg⟩ := x
    obtain ⟨Bx, hBx, hbox, rfl⟩ := hax
    obtain ⟨u, g, hbe, hgu, hgk, hb3, hb4, hbw⟩ := hs
    obtain ⟨hx1, hx2, hx3⟩ := hg
    dsimp only at hbox hx1 hx2 ⊢
    obtain ⟨xa, xc, rfl⟩ := hx1.form
    have HXL : Hid (xg.length ≤ 12) := hx2.le12 HG.out
    have HGL : Hid (g.length ≤ 12) := hgk.le12 HG.out
    have HSN : Hid (bestL f ((pre ++ [((Value.slice xa xg.length xc), xg)]).map Prod.snd) = bestStep f g xg) := by unfold Hid; rw [List.map_append, hbe]; exact bestL_snoc f _ _
    have HBE := Lib.hid hbe
    have HX1 := Lib.hid hx1
    have HX2 := Lib.hid hx2
    have HX3 := Lib.hid hx3
    have HGU := Lib.hid hgu
    have HGK := Lib.hid hgk
    have HB3 := Lib.hid hb3
    have HB4 := Lib.hid hb4
    have HBX := Lib.hid hbox
    have HBw := Lib.hid hbw
    have hsW : w.heap.size + 1 + 1 + 1 + 1 < W.heap.size := heap_lt hb4
    have hsX : Bx < W.heap.size := heap_lt hbox
    have hs1 : w.heap.size + 1 < W.heap.size := by omega
    have HBWW : Hid (Below w.heap.size w W) := HBW.out.trans (hbw.mono (by omega))
    have f0 := cell_blk ((hbw.block (w.heap.size + 1) (by omega)).trans L1.out) 0 rfl
    have b0 := cell_blk hbox 0 rfl
    have b1 := cell_blk hbox 1 rfl
    have b2 := cell_blk hbox 2 rfl
    have b3 := cell_blk hbox 3 rfl
    have m0 := cell_blk hb4 0 rfl
    have m1 := cell_blk hb4 1 rfl
    have m2 := cell_blk hb4 2 rfl
    have m3 := cell_blk hb4 3 rfl
    have HXW : Hid (w2.heap.size ≤ Bx) := hBx
    have HW2 : Hid (w.heap.size + 1 + 1 + 1 + 1 < w2.heap.size) := by unfold Hid; omega
    have hne : Bx ≠ w.heap.size + 1 + 1 + 1 := by omega
    have hne4 : Bx ≠ w.heap.size + 1 + 1 + 1 + 1 := by omega
    have HBWd : Hid (Below W.heap.size W W.drew) := (Below.refl _ _).drew
    clear hbe hx1 hx2 hx3 hgu hgk hb3 hb4 hbox hbw hBx hws hsz0 hsz2
    gi_wp2
    refine region_round (l := l) (S := (fun w' => (∀ b o, b < W.heap.size → w'.cell? ⟨b, o, none⟩ = W.cell? ⟨b, o, none⟩) ∧ Hid (Below W.heap.size W w'))) (by kernel_rfl) (by kernel_rfl) (old_of HBWd.out) (fun hHeld => ?_)
    (refine wpAnyH_take (i := 0) (v := ?_) rfl (by kernel_rfl) (by kernel_rfl) (by kernel_rfl) (fun _ _ _ h => h) (Or.inl ⟨by rfl, ?_⟩) (by assumption) ?_; rotate_left; (focus (intro w hSw; (try dsimp only at hSw); go_simp; (try with_reducible rfl))); (try simp only [List.getElem_toArray, List.getElem_cons_zero, List.getElem_cons_succ, Act.put, List.setIfInBounds_toArray, List.set_cons_zero, List.set_cons_succ])); (refine wpAnyH_take (i := 1) (v := ?_) rfl (by kernel_rfl) (by kernel_rfl) (by kernel_rfl) (fun _ _ _ h => h) (Or.inl ⟨by rfl, ?_⟩) (by assumption) ?_; rotate_left; (focus (intro w hSw; (try dsimp only at hSw); go_simp; (try with_reducible rfl))); (try simp only [List.getElem_toArray, List.getElem_cons_zero, List.getElem_cons_succ, Act.put, List.setIfInBounds_toArray, List.set_cons_zero, List.set_cons_succ]))
    (refine wpAnyH_take (i := 3) (v := ?_) rfl (by kernel_rfl) (by kernel_rfl) (by kernel_rfl) (fun _ _ _ h => h) (Or.inl ⟨by rfl, ?_⟩) (by assumption) ?_; rotate_left; (focus (intro w hSw; (try dsimp only at hSw); go_simp; (try with_reducible rfl))); (try simp only [List.getElem_toArray, List.getElem_cons_zero, List.getElem_cons_succ, Act.put, List.setIfInBounds_toArray, List.set_cons_zero, List.set_cons_succ])); (refine wpAnyH_take (i := 4) (v := ?_) rfl (by kernel_rfl) (by kernel_rfl) (by kernel_rfl) (fun _ _ _ h => h) (Or.inl ⟨by rfl, ?_⟩) (by assumption) ?_; rotate_left; (focus (intro w hSw; (try dsimp only at hSw); go_simp; (try with_reducible rfl))); (try simp only [List.getElem_toArray, List.getElem_cons_zero, List.getElem_cons_succ, Act.put, List.setIfInBounds_toArray, List.set_cons_zero, List.set_cons_succ]))
    refine wpAnyH_ready (rs := [2]) (by kernel_rfl) (by simp) ?_; refine AllReadyH.cons rfl (fun K hK => ?_) AllReadyH.nil; go_simp
    go_at_call 55
    refine (HASK2.out _ xg (HBWW.out.trans (HBWd.out.mono HBWW.out.size)) HXL.out).mono ?_
    rintro e w3 ⟨rfl, hb3⟩
    have S3 := old_of (bel HBWd.out hb3)
    have HC3 := S3.2
    clear hb3
    refine hK.out _ _ S3 (fun hHeld => ?_); clear hK K; (try simp only [List.getElem_toArray, List.getElem_cons_zero, List.getElem_cons_succ, Act.put, List.setIfInBounds_toArray, List.set_cons_zero, List.set_cons_succ])
    refine wpAnyH_ready (rs := [5]) (by kernel_rfl) (by simp) ?_; refine AllReadyH.cons rfl (fun K hK => ?_) AllReadyH.nil; go_simp
    go_at_call 55
    refine (HASK2.out _ g (HBWW.out.trans (HC3.out.mono HBWW.out.size)) HGL.out).mono ?_
    rintro e w4 ⟨rfl, hb4⟩
    have S4 := old_of (bel HC3.out hb4)
    have HC4 := S4.2
    clear hb4 S3
    refine hK.out _ _ S4 (fun hHeld => ?_); clear hK K; (try simp only [List.getElem_toArray, List.getElem_cons_zero, List.getElem_cons_succ, Act.put, List.setIfInBounds_toArray, List.set_cons_zero, List.set_cons_succ])
    (refine wpAnyH_take (i := 6) (v := ?_) rfl (by kernel_rfl) (by kernel_rfl) (by kernel_rfl) (fun _ _ _ h => h) (Or.inl ⟨by rfl, ?_⟩) (by assumption) ?_; rotate_left; (focus (intro w hSw; (try dsimp only at hSw); go_simp; (try with_reducible rfl))); (try simp only [List.getElem_toArray, List.getElem_cons_zero, List.getElem_cons_succ, Act.put, List.setIfInBounds_toArray, List.set_cons_zero, List.set_cons_succ]))
    refine wpAnyH_done (by kernel_rfl) ?_ _; clear hHeld
    unfold onlyN
    have D3 := Lib.hid ((HC4.out.block (w.heap.size + 1 + 1 + 1) (by omega)).trans HB3.out)
    have D4 := Lib.hid ((HC4.out.block _ hsW).trans HB4.out)
    have DX := Lib.hid ((HC4.out.block _ hsX).trans HBX.out)
    clear S4 f0 b0 b1 b2 b3 m0 m1 m2 m3
    by_cases hgt : f g < f xg
    · have hgi : (f g : Int) < (f xg : Int) := by omega
      have HST : Hid (bestStep f g xg = xg) := by unfold Hid bestStep; rw [if_pos hgt]
      have b0 := cell_blk DX.out 0 rfl
      have b1 := cell_blk DX.out 1 rfl
      have b2 := cell_blk DX.out 2 rfl
      have b3 := cell_blk DX.out 3 rfl
      have z0 := cell_blk D3.out 0 rfl
      have fz := free_blk D3.out 0
      clear hgt
      gi_wp2
      refine region_round (l := l) (S := fun w' => w'.heap[Bx]? = some (.cells #[.int .i64 (cS B xg 0), .int .i64 (cS B xg 1), .int .i64 (cS B xg 2), .int .i64 (cS B xg 3)] 69) ∧ w'.cell? ⟨Bx, 0, none⟩ = some (.int .i64 (cS B xg 0)) ∧ w'.cell? ⟨Bx, 1, none⟩ = some (.int .i64 (cS B xg 1)) ∧ w'.cell? ⟨Bx, 2, none⟩ = some (.int .i64 (cS B xg 2)) ∧ w'.cell? ⟨Bx, 3, none⟩ = some (.int .i64 (cS B xg 3))) (by kernel_rfl) (by kernel_rfl) ⟨DX.out, b0, b1, b2, b3⟩ (fun hHeld => ?_)
      (refine wpAnyH_take (i := 0) (v := ?_) rfl (by kernel_rfl) (by kernel_rfl) (by kernel_rfl) (fun _ _ _ h => h) (Or.inl ⟨by rfl, ?_⟩) (by assumption) ?_; rotate_left; (focus (intro w hSw; (try dsimp only at hSw); go_simp; (try with_reducible rfl))); (try simp only [List.getElem_toArray, List.getElem_cons_zero, List.getElem_cons_succ, Act.put, List.setIfInBounds_toArray, List.set_cons_zero, List.set_cons_succ])); (refine wpAnyH_take (i := 1) (v := ?_) rfl (by kernel_rfl) (by kernel_rfl) (by kernel_rfl) (fun _ _ _ h => h) (Or.inl ⟨by rfl, ?_⟩) (by assumption) ?_; rotate_left; (focus (intro w hSw; (try dsimp only at hSw); go_simp; (try with_reducible rfl))); (try simp only [List.getElem_toArray, List.getElem_cons_zero, List.getElem_cons_succ, Act.put, List.setIfInBounds_toArray, List.set_cons_zero, List.set_cons_succ]))
      refine wpAnyH_ready (rs := [2]) (by kernel_rfl) (by simp) ?_; refine AllReadyH.cons rfl (fun K hK => ?_) AllReadyH.nil; go_simp
      obtain ⟨w5', hw5', g3, go5, gb5⟩ := put1 D3.out (Value.slice xa xg.length xc)
      rw [hw5']
      obtain ⟨w5, hw5, g3', go5', gb5'⟩ : ∃ w5, w5'.drew = w5 ∧ w5.heap[w.heap.size + 1 + 1 + 1]? = some (.cells #[(Value.slice xa xg.length xc)] 22) ∧ (∀ k, k ≠ w.heap.size + 1 + 1 + 1 → w5.heap[k]? = w4.heap[k]?) ∧ Below (w.heap.size + 1 + 1 + 1) w4 w5 := ⟨_, rfl, g3, go5, gb5.drew⟩
      rw [hw5]
      have E3 := Lib.hid g3'
      have EO := Lib.hid go5'
      have EB := Lib.hid gb5'
      have E4 := Lib.hid ((go5' _ (by omega)).trans D4.out)
      have EX := Lib.hid ((go5' _ hne).trans DX.out)
      clear hw5' hw5 g3 go5 gb5 g3' go5' gb5' z0 fz b0 b1 b2 b3
      have b0 := cell_blk EX.out 0 rfl
      have b1 := cell_blk EX.out 1 rfl
      have b2 := cell_blk EX.out 2 rfl
      have b3 := cell_blk EX.out 3 rfl
      refine hK.out _ _ ⟨EX.out, b0, b1, b2, b3⟩ (fun hHeld => ?_)
      clear hK K
      (try simp only [List.getElem_toArray, List.getElem_cons_zero, List.getElem_cons_succ, Act.put, List.setIfInBounds_toArray, List.set_cons_zero, List.set_cons_succ])
      have m0 := cell_blk E4.out 0 rfl
      have m1 := cell_blk E4.out 1 rfl
      have m2 := cell_blk E4.out 2 rfl
      have m3 := cell_blk E4.out 3 rfl
      have z0 := free_blk E4.out 0
      have z1 := free_blk E4.out 1
      have z2 := free_blk E4.out 2
      have z3 := free_blk E4.out 3
      refine wpAnyH_ready (rs := [3]) (by kernel_rfl) (by simp) ?_; refine AllReadyH.cons rfl (fun K hK => ?_) AllReadyH.nil; go_simp
      obtain ⟨w6, hw6, g4, go6, gb6⟩ := put4 E4.out (.int .i64 (cS B xg 0)) (.int .i64 (cS B xg 1)) (.int .i64 (cS B xg 2)) (.int .i64 (cS B xg 3))
      rw [hw6]
      have FX := (go6 _ hne4).trans EX.out
      refine hK.out _ _ ⟨FX, cell_blk FX 0 rfl, cell_blk FX 1 rfl, cell_blk FX 2 rfl, cell_blk FX 3 rfl⟩ (fun hHeld => ?_)
      clear hK K
      (try simp only [List.getElem_toArray, List.getElem_cons_zero, List.getElem_cons_succ, Act.put, List.setIfInBounds_toArray, List.set_cons_zero, List.set_cons_succ])
      refine wpAnyH_done (by kernel_rfl) ?_ _; clear hHeld
      unfold onlyN
      have HW6 : Hid (∀ k o, W.heap[k]? = some o → k ≠ w.heap.size + 1 + 1 + 1 → k ≠ w.heap.size + 1 + 1 + 1 + 1 → w6.heap[k]? = some o) := fun k o hk n3 n4 => (go6 k n4).trans ((EO.out k n3).trans ((HC4.out.block k (heap_lt hk)).trans hk))
      have HZ6 : Hid (W.heap.size ≤ w6.heap.size) := Nat.le_trans HC4.out.size (Nat.le_trans EB.out.size gb6.size)
      have HB6 : Hid (Below (w.heap.size + 1 + 1 + 1) w2 w6) := HBw.out.trans ((HC4.out.mono (by omega)).trans (EB.out.trans (gb6.mono (by omega))))
      have HK6 : Hid (KeptC (fun k => k = w.heap.size + 1 + 1 + 1 ∨ k = w.heap.size + 1 + 1 + 1 + 1) W w6) := ⟨HZ6.out, fun k o hk _ he => HW6.out k o hk (fun e => he (.inl e)) (fun e => he (.inr e))⟩
      have G3 := Lib.hid ((go6 _ (by omega)).trans E3.out)
      have G4 := Lib.hid g4
      clear hw6 g4 go6 gb6 FX m0 m1 m2 m3 z0 z1 z2 z3 b0 b1 b2 b3
      gi_wp2
      exact ⟨⟨HZ6.out, fun k o hB hk _ => HW6.out k o hk (by have := HW2.out; omega) (by have := HW2.out; omega)⟩, HK6.out,
        (Value.slice xa xg.length xc), xg, by rw [HSN.out, HST.out], HX1.out.kept HK6.out (fun k hk => by have := HW2.out; omega), HX2.out, G3.out, G4.out, HB6.out⟩
    · have hgi : (f xg : Int) ≤ (f g : Int) := by omega
      have hgn : f xg ≤ f g := by omega
      have HST : Hid (bestStep f g xg = g) := by unfold Hid bestStep; rw [if_neg hgt]
      clear hgt
      gi_wp2
      exact ⟨⟨HC4.out.size, fun k o hB hk _ => (HC4.out.block k (heap_lt hk)).trans hk⟩, KeptC.of_below HC4.out, u, g, by rw [HSN.out, HST.out], HGU.out.below HC4.out, HGK.out, D3.out, D4.out, HBw.out.trans (HC4.out.mono (by omega))⟩
  case done =>
    rintro D ys W hD hys hs hK
    obtain ⟨u, g, hbe, hgu, hgk, hb3, hb4, hbw⟩ := hs
    rw [hys] at hbe
    have HB3 := Lib.hid hb3
    have HB4 := Lib.hid hb4
    have L2W := Lib.hid ((hbw.block (w.heap.size + 1 + 1) (by omega)).trans L2.out)
    have m0 := cell_blk hb4 0 rfl
    have m1 := cell_blk hb4 1 rfl
    have m2 := cell_blk hb4 2 rfl
    have m3 := cell_blk hb4 3 rfl
    have u0 := cell_blk hb3 0 rfl
    have y0 := cell_blk L2W.out 0 rfl
    have y1 := cell_blk L2W.out 1 rfl
    have y2 := cell_blk L2W.out 2 rfl
    have y3 := cell_blk L2W.out 3 rfl
    have z0 := free_blk L2W.out 0
    have z1 := free_blk L2W.out 1
    have z2 := free_blk L2W.out 2
    have z3 := free_blk L2W.out 3
    have HBE := Lib.hid hbe
    have HGU := Lib.hid hgu
    have HBw := Lib.hid hbw
    have HKD := Lib.hid hK
    have HD := Lib.hid hD
    have HW2 : Hid (w.heap.size + 1 + 1 + 1 + 1 < w2.heap.size) := by unfold Hid; omega
    have hsW : w.heap.size + 1 + 1 + 1 + 1 < W.heap.size := heap_lt hb4
    clear hbe hgu hgk hb3 hb4 hbw hK hD hys hws hsz0 hsz2
    gi_wp2
    refine region_wide (S := fun w' => w'.cell? ⟨w.heap.size + 1 + 1 + 1, 0, none⟩ = some u ∧ w'.cell? ⟨w.heap.size + 1 + 1 + 1 + 1, 0, none⟩ = some (.int .i64 (cS B g 0)) ∧ w'.cell? ⟨w.heap.size + 1 + 1 + 1 + 1, 1, none⟩ = some (.int .i64 (cS B g 1)) ∧ w'.cell? ⟨w.heap.size + 1 + 1 + 1 + 1, 2, none⟩ = some (.int .i64 (cS B g 2)) ∧ w'.cell? ⟨w.heap.size + 1 + 1 + 1 + 1, 3, none⟩ = some (.int .i64 (cS B g 3))) (by kernel_rfl) (by kernel_rfl) ⟨u0, m0, m1, m2, m3⟩ (fun hHeld => ?_)
    (refine wpAnyH_take (i := 0) (v := ?_) rfl (by kernel_rfl) (by kernel_rfl) (by kernel_rfl) (fun _ _ _ h => h) (Or.inl ⟨by rfl, ?_⟩) (by assumption) ?_; rotate_left; (focus (intro w hSw; (try dsimp only at hSw); go_simp; (try with_reducible rfl))); (try simp only [List.getElem_toArray, List.getElem_cons_zero, List.getElem_cons_succ, Act.put, List.setIfInBounds_toArray, List.set_cons_zero, List.set_cons_succ])); (refine wpAnyH_take (i := 1) (v := ?_) rfl (by kernel_rfl) (by kernel_rfl) (by kernel_rfl) (fun _ _ _ h => h) (Or.inl ⟨by rfl, ?_⟩) (by assumption) ?_; rotate_left; (focus (intro w hSw; (try dsimp only at hSw); go_simp; (try with_reducible rfl))); (try simp only [List.getElem_toArray, List.getElem_cons_zero, List.getElem_cons_succ, Act.put, List.setIfInBounds_toArray, List.set_cons_zero, List.set_cons_succ])); (refine wpAnyH_take (i := 2) (v := ?_) rfl (by kernel_rfl) (by kernel_rfl) (by kernel_rfl) (fun _ _ _ h => h) (Or.inl ⟨by rfl, ?_⟩) (by assumption) ?_; rotate_left; (focus (intro w hSw; (try dsimp only at hSw); go_simp; (try with_reducible rfl))); (try simp only [List.getElem_toArray, List.getElem_cons_zero, List.getElem_cons_succ, Act.put, List.setIfInBounds_toArray, List.set_cons_zero, List.set_cons_succ]))
    refine wpAnyH_ready (rs := [3]) (by kernel_rfl) (by simp) ?_; refine AllReadyH.cons rfl (fun K hK => ?_) AllReadyH.nil; go_simp
    obtain ⟨w6, hw6, g2, go6, gb6⟩ := put4 L2W.out (.int .i64 (cS B g 0)) (.int .i64 (cS B g 1)) (.int .i64 (cS B g 2)) (.int .i64 (cS B g 3))
    rw [hw6]
    obtain ⟨w7, hw7, g2', go7, gb7⟩ : ∃ w7, w6.drew = w7 ∧ w7.heap[w.heap.size + 1 + 1]? = some (.cells #[.int .i64 (cS B g 0), .int .i64 (cS B g 1), .int .i64 (cS B g 2), .int .i64 (cS B g 3)] 69) ∧ (∀ k, k ≠ w.heap.size + 1 + 1 → w7.heap[k]? = W.heap[k]?) ∧ Below (w.heap.size + 1 + 1) W w7 := ⟨_, rfl, g2, go6, gb6.drew⟩
    rw [hw7]
    have F3 := (go7 (w.heap.size + 1 + 1 + 1) (by omega)).trans HB3.out
    have F4 := (go7 (w.heap.size + 1 + 1 + 1 + 1) (by omega)).trans HB4.out
    refine hK.out _ _ ⟨cell_blk F3 0 rfl, cell_blk F4 0 rfl, cell_blk F4 1 rfl, cell_blk F4 2 rfl, cell_blk F4 3 rfl⟩ (fun hHeld => ?_)
    clear hK K
    (try simp only [List.getElem_toArray, List.getElem_cons_zero, List.getElem_cons_succ, Act.put, List.setIfInBounds_toArray, List.set_cons_zero, List.set_cons_succ])
    refine wpAnyH_done (by kernel_rfl) ?_ _; clear hHeld
    unfold onlyN
    have hK' := (go7 D (by have := HD.out; have := HW2.out; omega)).trans HKD.out
    have HG7 := Lib.hid ((World.putObj_heap_other (w := w7) (o := .deferred none) (show w.heap.size + 1 + 1 ≠ D by have := HD.out; have := HW2.out; omega)).trans g2')
    have HB7 : Hid (Below w.heap.size w w7) := (HBW.out.trans (HBw.out.mono (by omega))).trans (gb7.mono (by omega))
    have HU7 : Hid (GU w2.heap.size w7 u g) := HGU.out.kept (Ex := fun k => k = w.heap.size + 1 + 1) ⟨gb7.size, fun k o hk _ he => (go7 k he).trans hk⟩ (fun k hk => by have := HW2.out; omega)
    clear hw6 hw7 g2 go6 gb6 g2' gb7 F3 F4 m0 m1 m2 m3 u0 y0 y1 y2 y3 z0 z1 z2 z3
    gi_wp2
    refine ⟨by simp, .inl ⟨_, _, rfl, run_takeDeferred hK', ?_⟩⟩
    have hb8 := belowK_b (w := w) (Nat.le_refl _) w7 D (.deferred (some [])) (.deferred none) (by have := HD.out; have := HBW.out.size; omega) hK' rfl rfl
    exact ⟨_, resTC rfl rfl rfl HG7.out, ⟨u, by unfold cntV; rw [← HBE.out]; rfl, by rw [← HBE.out]; exact (GU.rec' (R := w2.heap.size) u g w7 D _ _ HU7.out HD.out hK' rfl).lower HBW.out.size⟩, HB7.out.trans hb8⟩

set_option maxRecDepth 100000 in
set_option maxHeartbeats 12800000 in
theorem best_often (N : Nat) (v : Value) (B : SB) (p : Nat) (bs s : Nat) (w : World) (h : BookAt N w v B) (hG : GoodL B p) (hs : s < 4) (hbs : w.cell? ⟨bs, 0, none⟩ = some (.int .i64 s)) (hbw : bs < w.heap.size) :
    Calls Try.prog 52 #[v, .func (.func 76) #[] #[.pointer (some ⟨bs, 0, none⟩)]] w fun e w' => (∃ u, e = .returned (.tuple #[u, cntV (cS B (bestL (fun g => cS B g s) (giftsL B)))]) ∧ GU w.heap.size w' u (bestL (fun g => cS B g s) (giftsL B))) ∧ Below w.heap.size w w' := by
  obtain ⟨a1, z1, a2, z2, a3, z3, rfl⟩ := h.form
  obtain ⟨ws, hws, HB, hsz, k0, k1, k2, k3, k4⟩ := allocs5 w (.cells #[.slice a1 B.ns z1, .slice a2 B.ng z2, .slice a3 B.nw z3] 62) (.cells #[.func (.func 76) #[] #[.pointer (some ⟨bs, 0, none⟩)]] 82) (.cells #[.int .i64 0, .int .i64 0, .int .i64 0, .int .i64 0] 69) (.cells #[.slice none 0 0] 22) (.cells #[.int .i64 0, .int .i64 0, .int .i64 0, .int .i64 0] 69)
  have q0 := cell_blk k0 0 rfl
  have q1 := cell_blk k0 1 rfl
  have q2 := cell_blk k0 2 rfl
  have hNw := h.1
  have HBK := Lib.hid (h.go HB.out)
  have HASK : Hid (∀ (W : World) (g : List Nat), Below w.heap.size w W → g.length ≤ 12 → Calls Try.prog 76 (#[cntV (cS B g), .pointer (some ⟨bs, 0, none⟩)]) W fun e w' => e = .returned (.int .i64 (cS B g s : Nat)) ∧ Below W.heap.size W w') := fun W g hb hl => often_any (cS B g) bs s W hs ((hb.cell (p := ⟨bs, 0, none⟩) hbw).trans hbs) (Nat.lt_of_lt_of_le hbw hb.size)
  have HG := Lib.hid hG
  obtain ⟨f, hf⟩ : ∃ f : List Nat → Nat, (fun g => cS B g s) = f := ⟨_, rfl⟩
  have HFE : Hid (∀ g, (cS B g s : Nat) = f g) := fun g => by rw [← hf]
  rw [hf]
  clear h hG hf
  have HASK2 : Hid (∀ (W : World) (g : List Nat), Below w.heap.size w W → g.length ≤ 12 → Calls Try.prog 76 (#[.agg #[.int .i64 (cS B g 0), .int .i64 (cS B g 1), .int .i64 (cS B g 2), .int .i64 (cS B g 3)], .pointer (some ⟨bs, 0, none⟩)]) W fun e w' => e = .returned (.int .i64 (f g : Nat)) ∧ Below W.heap.size W w') := fun W g hb hl => by rw [← HFE.out g]; exact HASK.out W g hb hl
  clear HASK HFE
  refine (callsIn_wide (n := 4)).1 ?_
  refine callsIn_of_wp_marks Try.func52 rfl trivial ?_ rfl
  simp only [Try.ntmps52, List.size_toArray, List.length_cons, List.length_nil, Nat.reduceAdd, Nat.reduceSub, Array.replicate_succ, Array.replicate_zero, List.push_toArray, List.append_toArray, List.nil_append, List.cons_append]
  have HSZ := Lib.hid hsz
  have hsz0 : w.heap.size + 1 + 1 + 1 + 1 < ws.heap.size := by omega
  have hszN : N ≤ w.heap.size := hNw
  have K1 := Lib.hid k1
  have K2 := Lib.hid k2
  have K3 := Lib.hid k3
  have K4 := Lib.hid k4
  clear k0 k1 k2 k3 k4 hsz
  gi_wp2_with (refine ⟨trivial, ?_⟩; gi_at_call 73; refine (callsIn_wide.2 (gifts_any _ _ _ _ _ _ _ _ _ _)).mono ?_; rintro e w' ⟨rfl, hw1⟩; rw [hw1]; clear hw1 w'; obtain ⟨w2, hw2, HB2, hsz2, hblk2⟩ := box1 ws (.cells #[.slice a1 B.ns z1, .slice a2 B.ng z2, .slice a3 B.nw z3] 62); rw [hw2]; clear hw2)
  clear q0 q1 q2
  have HBW : Hid (Below w.heap.size w w2) := fin HB.out HB2.out
  have hseq := gifts1_seq 3 ws.heap.size N w2.heap.size B p (fun k => k = w.heap.size + 1 + 1 + 1 ∨ k = w.heap.size + 1 + 1 + 1 + 1) w2 a1 a2 a3 z1 z2 z3 hblk2 (HBK.out.go HB2.out) HG.out (by omega) (Nat.le_refl _) (fun k hk => by omega)
  have HSEQ := Lib.hid hseq
  have L1 := Lib.hid ((HB2.out.block _ (by omega)).trans K1.out)
  have L2 := Lib.hid ((HB2.out.block _ (by omega)).trans K2.out)
  have L3 := Lib.hid ((HB2.out.block _ (by omega)).trans K3.out)
  have L4 := Lib.hid ((HB2.out.block _ hsz0).trans K4.out)
  clear hseq hblk2
  refine rangeNo (w := w2) rfl (by omega) (gf := 87) (lb := #[.pointer (some ⟨ws.heap.size, 0, none⟩)]) rfl trivial (enters_of Try.func87 (by kernel_rfl) rfl) HSEQ.out
    (fun h k => KeptC.trans h k) (fun W l o o' _ hW ho => KeptC.putObj _ o' hW ho) (Below.refl _ _) (fun _ => rfl) (fun W A C k o hab _ hA _ => (hab.block k (heap_lt hA)).trans hA)
    (BestI B w2 (w.heap.size + 1 + 1 + 1) w2.heap.size f) (fun s => BestI.rec' (by omega) s)
    (fun x A l o o' hs hl hA ho => ⟨GU.rec' (R := w2.heap.size) x.1 x.2 A l o o' hs.1 hl hA ho, hs.2.1, by simpa [World.putObj] using hs.2.2⟩)
    (fun W s A C _ hs hk => hs.below hk) (fun s A o hs => hs.below (below_alloc (Nat.le_refl _) o))
    ⟨.slice none 0 0, [], rfl, .inl ⟨rfl, rfl⟩, GOK.nil B, L3.out, L4.out, Below.refl _ _⟩
    (fun x a' W => ∃ Bx, w2.heap.size ≤ Bx ∧ W.heap[Bx]? = some (.cells #[.int .i64 (cS B x.2 0), .int .i64 (cS B x.2 1), .int .i64 (cS B x.2 2), .int .i64 (cS B x.2 3)] 69) ∧ a' = { tmps := #[.agg #[.slice a1 B.ns z1, .slice a2 B.ng z2, .slice a3 B.nw z3], .func (.func 76) #[] #[.pointer (some ⟨bs, 0, none⟩)], .pointer (some ⟨w.heap.size, 0, none⟩), .pointer (some ⟨w.heap.size + 1, 0, none⟩), .slice none 0 0, .pointer (some ⟨w.heap.size + 1 + 1, 0, none⟩), .pointer (some ⟨w.heap.size + 1 + 1 + 1, 0, none⟩), .pointer (some ⟨w.heap.size + 1 + 1 + 1 + 1, 0, none⟩), x.1, .pointer (some ⟨Bx, 0, none⟩), .agg #[.slice a1 B.ns z1, .slice a2 B.ng z2, .slice a3 B.nw z3], .func (.func 87) #[] #[.pointer (some ⟨ws.heap.size, 0, none⟩)], x.1, .agg #[.int .i64 (cS B x.2 0), .int .i64 (cS B x.2 1), .int .i64 (cS B x.2 2), .int .i64 (cS B x.2 3)], undef, undef, undef, undef, undef, undef, undef, undef, undef, undef, undef], defers := [] })
    (fun x a' A l o o' hs hl hA ho => by
      obtain ⟨Bx, h1, h2, h3⟩ := hs
      exact ⟨Bx, h1, (World.putObj_heap_other (by intro e; subst e; rw [hA] at h2; cases h2; cases ho)).trans h2, h3⟩) ?assign ?body ?done
  case assign =>
    intro l pre x W K hs hg hK
    unfold cntV
    gi_wp2
    have hk := below_alloc (Nat.le_refl W.heap.size) (.cells #[.int .i64 (cS B x.2 0), .int .i64 (cS B x.2 1), .int .i64 (cS B x.2 2), .int .i64 (cS B x.2 3)] 69)
    refine hK _ _ ((KeepsOthers.alloc _ _).from _) (KeptC.of_below hk) (hs.below hk) ⟨hg.1.below hk, hg.2.1, Nat.le_trans hg.2.2 hk.size⟩ ⟨W.heap.size, hg.2.2, World.alloc_heap_new _ _, rfl⟩
  case body =>
    intro l pre x a' W hl hrec hs hg hax
    obtain ⟨xu, xg⟩ := x
    obtain ⟨Bx, hBx, hbox, rfl⟩ := hax
    obtain ⟨u, g, hbe, hgu, hgk, hb3, hb4, hbw⟩ := hs
    obtain ⟨hx1, hx2, hx3⟩ := hg
    dsimp only at hbox hx1 hx2 ⊢
    obtain ⟨xa, xc, rfl⟩ := hx1.form
    have HXL : Hid (xg.length ≤ 12) := hx2.le12 HG.out
    have HGL : Hid (g.length ≤ 12) := hgk.le12 HG.out
    have HSN : Hid (bestL f ((pre ++ [((Value.slice xa xg.length xc), xg)]).map Prod.snd) = bestStep f g xg) := by unfold Hid; rw [List.map_append, hbe]; exact bestL_snoc f _ _
    have HBE := Lib.hid hbe
    have HX1 := Lib.hid hx1
    have HX2 := Lib.hid hx2
    have HX3 := Lib.hid hx3
    have HGU := Lib.hid hgu
    have HGK := Lib.hid hgk
    have HB3 := Lib.hid hb3
    have HB4 := Lib.hid hb4
    have HBX := Lib.hid hbox
    have HBw := Lib.hid hbw
    have hsW : w.heap.size + 1 + 1 + 1 + 1 < W.heap.size := heap_lt hb4
    have hsX : Bx < W.heap.size := heap_lt hbox
    have hs1 : w.heap.size + 1 < W.heap.size := by omega
    have HBWW : Hid (Below w.heap.size w W) := HBW.out.trans (hbw.mono (by omega))
    have f0 := cell_blk ((hbw.block (w.heap.size + 1) (by omega)).trans L1.out) 0 rfl
    have b0 := cell_blk hbox 0 rfl
    have b1 := cell_blk hbox 1 rfl
    have b2 := cell_blk hbox 2 rfl
    have b3 := cell_blk hbox 3 rfl
    have m0 := cell_blk hb4 0 rfl
    have m1 := cell_blk hb4 1 rfl
    have m2 := cell_blk hb4 2 rfl
    have m3 := cell_blk hb4 3 rfl
    have HXW : Hid (w2.heap.size ≤ Bx) := hBx
    have HW2 : Hid (w.heap.size + 1 + 1 + 1 + 1 < w2.heap.size) := by unfold Hid; omega
    have hne : Bx ≠ w.heap.size + 1 + 1 + 1 := by omega
    have hne4 : Bx ≠ w.heap.size + 1 + 1 + 1 + 1 := by omega
    have HBWd : Hid (Below W.heap.size W W.drew) := (Below.refl _ _).drew
    clear hbe hx1 hx2 hx3 hgu hgk hb3 hb4 hbox hbw hBx hws hsz0 hsz2
    gi_wp2
    refine region_round (l := l) (S := (fun w' => (∀ b o, b < W.heap.size → w'.cell? ⟨b, o, none⟩ = W.cell? ⟨b, o, none⟩) ∧ Hid (Below W.heap.size W w'))) (by kernel_rfl) (by kernel_rfl) (old_of HBWd.out) (fun hHeld => ?_)
    (refine wpAnyH_take (i := 0) (v := ?_) rfl (by kernel_rfl) (by kernel_rfl) (by kernel_rfl) (fun _ _ _ h => h) (Or.inl ⟨by rfl, ?_⟩) (by assumption) ?_; rotate_left; (focus (intro w hSw; (try dsimp only at hSw); go_simp; (try with_reducible rfl))); (try simp only [List.getElem_toArray, List.getElem_cons_zero, List.getElem_cons_succ, Act.put, List.setIfInBounds_toArray, List.set_cons_zero, List.set_cons_succ])); (refine wpAnyH_take (i := 1) (v := ?_) rfl (by kernel_rfl) (by kernel_rfl) (by kernel_rfl) (fun _ _ _ h => h) (Or.inl ⟨by rfl, ?_⟩) (by assumption) ?_; rotate_left; (focus (intro w hSw; (try dsimp only at hSw); go_simp; (try with_reducible rfl))); (try simp only [List.getElem_toArray, List.getElem_cons_zero, List.getElem_cons_succ, Act.put, List.setIfInBounds_toArray, List.set_cons_zero, List.set_cons_succ]))
    (refine wpAnyH_take (i := 3) (v := ?_) rfl (by kernel_rfl) (by kernel_rfl) (by kernel_rfl) (fun _ _ _ h => h) (Or.inl ⟨by rfl, ?_⟩) (by assumption) ?_; rotate_left; (focus (intro w hSw; (try dsimp only at hSw); go_simp; (try with_reducible rfl))); (try simp only [List.getElem_toArray, List.getElem_cons_zero, List.getElem_cons_succ, Act.put, List.setIfInBounds_toArray, List.set_cons_zero, List.set_cons_succ])); (refine wpAnyH_take (i := 4) (v := ?_) rfl (by kernel_rfl) (by kernel_rfl) (by kernel_rfl) (fun _ _ _ h => h) (Or.inl ⟨by rfl, ?_⟩) (by assumption) ?_; rotate_left; (focus (intro w hSw; (try dsimp only at hSw); go_simp; (try with_reducible rfl))); (try simp only [List.getElem_toArray, List.getElem_cons_zero, List.getElem_cons_succ, Act.put, List.setIfInBounds_toArray, List.set_cons_zero, List.set_cons_succ]))
    refine wpAnyH_ready (rs := [2]) (by kernel_rfl) (by simp) ?_; refine AllReadyH.cons rfl (fun K hK => ?_) AllReadyH.nil; go_simp
    go_at_call 76
    refine (HASK2.out _ xg (HBWW.out.trans (HBWd.out.mono HBWW.out.size)) HXL.out).mono ?_
    rintro e w3 ⟨rfl, hb3⟩
    have S3 := old_of (bel HBWd.out hb3)
    have HC3 := S3.2
    clear hb3
    refine hK.out _ _ S3 (fun hHeld => ?_); clear hK K; (try simp only [List.getElem_toArray, List.getElem_cons_zero, List.getElem_cons_succ, Act.put, List.setIfInBounds_toArray, List.set_cons_zero, List.set_cons_succ])
    refine wpAnyH_ready (rs := [5]) (by kernel_rfl) (by simp) ?_; refine AllReadyH.cons rfl (fun K hK => ?_) AllReadyH.nil; go_simp
    go_at_call 76
    refine (HASK2.out _ g (HBWW.out.trans (HC3.out.mono HBWW.out.size)) HGL.out).mono ?_
    rintro e w4 ⟨rfl, hb4⟩
    have S4 := old_of (bel HC3.out hb4)
    have HC4 := S4.2
    clear hb4 S3
    refine hK.out _ _ S4 (fun hHeld => ?_); clear hK K; (try simp only [List.getElem_toArray, List.getElem_cons_zero, List.getElem_cons_succ, Act.put, List.setIfInBounds_toArray, List.set_cons_zero, List.set_cons_succ])
    (refine wpAnyH_take (i := 6) (v := ?_) rfl (by kernel_rfl) (by kernel_rfl) (by kernel_rfl) (fun _ _ _ h => h) (Or.inl ⟨by rfl, ?_⟩) (by assumption) ?_; rotate_left; (focus (intro w hSw; (try dsimp only at hSw); go_simp; (try with_reducible rfl))); (try simp only [List.getElem_toArray, List.getElem_cons_zero, List.getElem_cons_succ, Act.put, List.setIfInBounds_toArray, List.set_cons_zero, List.set_cons_succ]))
    refine wpAnyH_done (by kernel_rfl) ?_ _; clear hHeld
    unfold onlyN
    have D3 := Lib.hid ((HC4.out.block (w.heap.size + 1 + 1 + 1) (by omega)).trans HB3.out)
    have D4 := Lib.hid ((HC4.out.block _ hsW).trans HB4.out)
    have DX := Lib.hid ((HC4.out.block _ hsX).trans HBX.out)
    clear S4 f0 b0 b1 b2 b3 m0 m1 m2 m3
    by_cases hgt : f g < f xg
    · have hgi : (f g : Int) < (f xg : Int) := by omega
      have HST : Hid (bestStep f g xg = xg) := by unfold Hid bestStep; rw [if_pos hgt]
      have b0 := cell_blk DX.out 0 rfl
      have b1 := cell_blk DX.out 1 rfl
      have b2 := cell_blk DX.out 2 rfl
      have b3 := cell_blk DX.out 3 rfl
      have z0 := cell_blk D3.out 0 rfl
      have fz := free_blk D3.out 0
      clear hgt
      gi_wp2
      refine region_round (l := l) (S := fun w' => w'.heap[Bx]? = some (.cells #[.int .i64 (cS B xg 0), .int .i64 (cS B xg 1), .int .i64 (cS B xg 2), .int .i64 (cS B xg 3)] 69) ∧ w'.cell? ⟨Bx, 0, none⟩ = some (.int .i64 (cS B xg 0)) ∧ w'.cell? ⟨Bx, 1, none⟩ = some (.int .i64 (cS B xg 1)) ∧ w'.cell? ⟨Bx, 2, none⟩ = some (.int .i64 (cS B xg 2)) ∧ w'.cell? ⟨Bx, 3, none⟩ = some (.int .i64 (cS B xg 3))) (by kernel_rfl) (by kernel_rfl) ⟨DX.out, b0, b1, b2, b3⟩ (fun hHeld => ?_)
      (refine wpAnyH_take (i := 0) (v := ?_) rfl (by kernel_rfl) (by kernel_rfl) (by kernel_rfl) (fun _ _ _ h => h) (Or.inl ⟨by rfl, ?_⟩) (by assumption) ?_; rotate_left; (focus (intro w hSw; (try dsimp only at hSw); go_simp; (try with_reducible rfl))); (try simp only [List.getElem_toArray, List.getElem_cons_zero, List.getElem_cons_succ, Act.put, List.setIfInBounds_toArray, List.set_cons_zero, List.set_cons_succ])); (refine wpAnyH_take (i := 1) (v := ?_) rfl (by kernel_rfl) (by kernel_rfl) (by kernel_rfl) (fun _ _ _ h => h) (Or.inl ⟨by rfl, ?_⟩) (by assumption) ?_; rotate_left; (focus (intro w hSw; (try dsimp only at hSw); go_simp; (try with_reducible rfl))); (try simp only [List.getElem_toArray, List.getElem_cons_zero, List.getElem_cons_succ, Act.put, List.setIfInBounds_toArray, List.set_cons_zero, List.set_cons_succ]))
      refine wpAnyH_ready (rs := [2]) (by kernel_rfl) (by simp) ?_; refine AllReadyH.cons rfl (fun K hK => ?_) AllReadyH.nil; go_simp
      obtain ⟨w5', hw5', g3, go5, gb5⟩ := put1 D3.out (Value.slice xa xg.length xc)
      rw [hw5']
      obtain ⟨w5, hw5, g3', go5', gb5'⟩ : ∃ w5, w5'.drew = w5 ∧ w5.heap[w.heap.size + 1 + 1 + 1]? = some (.cells #[(Value.slice xa xg.length xc)] 22) ∧ (∀ k, k ≠ w.heap.size + 1 + 1 + 1 → w5.heap[k]? = w4.heap[k]?) ∧ Below (w.heap.size + 1 + 1 + 1) w4 w5 := ⟨_, rfl, g3, go5, gb5.drew⟩
      rw [hw5]
      have E3 := Lib.hid g3'
      have EO := Lib.hid go5'
      have EB := Lib.hid gb5'
      have E4 := Lib.hid ((go5' _ (by omega)).trans D4.out)
      have EX := Lib.hid ((go5' _ hne).trans DX.out)
      clear hw5' hw5 g3 go5 gb5 g3' go5' gb5' z0 fz b0 b1 b2 b3
      have b0 := cell_blk EX.out 0 rfl
      have b1 := cell_blk EX.out 1 rfl
      have b2 := cell_blk EX.out 2 rfl
      have b3 := cell_blk EX.out 3 rfl
      refine hK.out _ _ ⟨EX.out, b0, b1, b2, b3⟩ (fun hHeld => ?_)
      clear hK K
      (try simp only [List.getElem_toArray, List.getElem_cons_zero, List.getElem_cons_succ, Act.put, List.setIfInBounds_toArray, List.set_cons_zero, List.set_cons_succ])
      have m0 := cell_blk E4.out 0 rfl
      have m1 := cell_blk E4.out 1 rfl
      have m2 := cell_blk E4.out 2 rfl
      have m3 := cell_blk E4.out 3 rfl
      have z0 := free_blk E4.out 0
      have z1 := free_blk E4.out 1
      have z2 := free_blk E4.out 2
      have z3 := free_blk E4.out 3
      refine wpAnyH_ready (rs := [3]) (by kernel_rfl) (by simp) ?_; refine AllReadyH.cons rfl (fun K hK => ?_) AllReadyH.nil; go_simp
      obtain ⟨w6, hw6, g4, go6, gb6⟩ := put4 E4.out (.int .i64 (cS B xg 0)) (.int .i64 (cS B xg 1)) (.int .i64 (cS B xg 2)) (.int .i64 (cS B xg 3))
      rw [hw6]
      have FX := (go6 _ hne4).trans EX.out
      refine hK.out _ _ ⟨FX, cell_blk FX 0 rfl, cell_blk FX 1 rfl, cell_blk FX 2 rfl, cell_blk FX 3 rfl⟩ (fun hHeld => ?_)
      clear hK K
      (try simp only [List.getElem_toArray, List.getElem_cons_zero, List.getElem_cons_succ, Act.put, List.setIfInBounds_toArray, List.set_cons_zero, List.set_cons_succ])
      refine wpAnyH_done (by kernel_rfl) ?_ _; clear hHeld
      unfold onlyN
      have HW6 : Hid (∀ k o, W.heap[k]? = some o → k ≠ w.heap.size + 1 + 1 + 1 → k ≠ w.heap.size + 1 + 1 + 1 + 1 → w6.heap[k]? = some o) := fun k o hk n3 n4 => (go6 k n4).trans ((EO.out k n3).trans ((HC4.out.block k (heap_lt hk)).trans hk))
      have HZ6 : Hid (W.heap.size ≤ w6.heap.size) := Nat.le_trans HC4.out.size (Nat.le_trans EB.out.size gb6.size)
      have HB6 : Hid (Below (w.heap.size + 1 + 1 + 1) w2 w6) := HBw.out.trans ((HC4.out.mono (by omega)).trans (EB.out.trans (gb6.mono (by omega))))
      have HK6 : Hid (KeptC (fun k => k = w.heap.size + 1 + 1 + 1 ∨ k = w.heap.size + 1 + 1 + 1 + 1) W w6) := ⟨HZ6.out, fun k o hk _ he => HW6.out k o hk (fun e => he (.inl e)) (fun e => he (.inr e))⟩
      have G3 := Lib.hid ((go6 _ (by omega)).trans E3.out)
      have G4 := Lib.hid g4
      clear hw6 g4 go6 gb6 FX m0 m1 m2 m3 z0 z1 z2 z3 b0 b1 b2 b3
      gi_wp2
      exact ⟨⟨HZ6.out, fun k o hB hk _ => HW6.out k o hk (by have := HW2.out; omega) (by have := HW2.out; omega)⟩, HK6.out,
        (Value.slice xa xg.length xc), xg, by rw [HSN.out, HST.out], HX1.out.kept HK6.out (fun k hk => by have := HW2.out; omega), HX2.out, G3.out, G4.out, HB6.out⟩
    · have hgi : (f xg : Int) ≤ (f g : Int) := by omega
      have hgn : f xg ≤ f g := by omega
      have HST : Hid (bestStep f g xg = g) := by unfold Hid bestStep; rw [if_neg hgt]
      clear hgt
      gi_wp2
      exact ⟨⟨HC4.out.size, fun k o hB hk _ => (HC4.out.block k (heap_lt hk)).trans hk⟩, KeptC.of_below HC4.out, u, g, by rw [HSN.out, HST.out], HGU.out.below HC4.out, HGK.out, D3.out, D4.out, HBw.out.trans (HC4.out.mono (by omega))⟩
  case done =>
    rintro D ys W hD hys hs hK
    obtain ⟨u, g, hbe, hgu, hgk, hb3, hb4, hbw⟩ := hs
    rw [hys] at hbe
    have HB3 := Lib.hid hb3
    have HB4 := Lib.hid hb4
    have L2W := Lib.hid ((hbw.block (w.heap.size + 1 + 1) (by omega)).trans L2.out)
    have m0 := cell_blk hb4 0 rfl
    have m1 := cell_blk hb4 1 rfl
    have m2 := cell_blk hb4 2 rfl
    have m3 := cell_blk hb4 3 rfl
    have u0 := cell_blk hb3 0 rfl
    have y0 := cell_blk L2W.out 0 rfl
    have y1 := cell_blk L2W.out 1 rfl
    have y2 := cell_blk L2W.out 2 rfl
    have y3 := cell_blk L2W.out 3 rfl
    have z0 := free_blk L2W.out 0
    have z1 := free_blk L2W.out 1
    have z2 := free_blk L2W.out 2
    have z3 := free_blk L2W.out 3
    have HBE := Lib.hid hbe
    have HGU := Lib.hid hgu
    have HBw := Lib.hid hbw
    have HKD := Lib.hid hK
    have HD := Lib.hid hD
    have HW2 : Hid (w.heap.size + 1 + 1 + 1 + 1 < w2.heap.size) := by unfold Hid; omega
    have hsW : w.heap.size + 1 + 1 + 1 + 1 < W.heap.size := heap_lt hb4
    clear hbe hgu hgk hb3 hb4 hbw hK hD hys hws hsz0 hsz2
    gi_wp2
    refine region_wide (S := fun w' => w'.cell? ⟨w.heap.size + 1 + 1 + 1, 0, none⟩ = some u ∧ w'.cell? ⟨w.heap.size + 1 + 1 + 1 + 1, 0, none⟩ = some (.int .i64 (cS B g 0)) ∧ w'.cell? ⟨w.heap.size + 1 + 1 + 1 + 1, 1, none⟩ = some (.int .i64 (cS B g 1)) ∧ w'.cell? ⟨w.heap.size + 1 + 1 + 1 + 1, 2, none⟩ = some (.int .i64 (cS B g 2)) ∧ w'.cell? ⟨w.heap.size + 1 + 1 + 1 + 1, 3, none⟩ = some (.int .i64 (cS B g 3))) (by kernel_rfl) (by kernel_rfl) ⟨u0, m0, m1, m2, m3⟩ (fun hHeld => ?_)
    (refine wpAnyH_take (i := 0) (v := ?_) rfl (by kernel_rfl) (by kernel_rfl) (by kernel_rfl) (fun _ _ _ h => h) (Or.inl ⟨by rfl, ?_⟩) (by assumption) ?_; rotate_left; (focus (intro w hSw; (try dsimp only at hSw); go_simp; (try with_reducible rfl))); (try simp only [List.getElem_toArray, List.getElem_cons_zero, List.getElem_cons_succ, Act.put, List.setIfInBounds_toArray, List.set_cons_zero, List.set_cons_succ])); (refine wpAnyH_take (i := 1) (v := ?_) rfl (by kernel_rfl) (by kernel_rfl) (by kernel_rfl) (fun _ _ _ h => h) (Or.inl ⟨by rfl, ?_⟩) (by assumption) ?_; rotate_left; (focus (intro w hSw; (try dsimp only at hSw); go_simp; (try with_reducible rfl))); (try simp only [List.getElem_toArray, List.getElem_cons_zero, List.getElem_cons_succ, Act.put, List.setIfInBounds_toArray, List.set_cons_zero, List.set_cons_succ])); (refine wpAnyH_take (i := 2) (v := ?_) rfl (by kernel_rfl) (by kernel_rfl) (by kernel_rfl) (fun _ _ _ h => h) (Or.inl ⟨by rfl, ?_⟩) (by assumption) ?_; rotate_left; (focus (intro w hSw; (try dsimp only at hSw); go_simp; (try with_reducible rfl))); (try simp only [List.getElem_toArray, List.getElem_cons_zero, List.getElem_cons_succ, Act.put, List.setIfInBounds_toArray, List.set_cons_zero, List.set_cons_succ]))
    refine wpAnyH_ready (rs := [3]) (by kernel_rfl) (by simp) ?_; refine AllReadyH.cons rfl (fun K hK => ?_) AllReadyH.nil; go_simp
    obtain ⟨w6, hw6, g2, go6, gb6⟩ := put4 L2W.out (.int .i64 (cS B g 0)) (.int .i64 (cS B g 1)) (.int .i64 (cS B g 2)) (.int .i64 (cS B g 3))
    rw [hw6]
    obtain ⟨w7, hw7, g2', go7, gb7⟩ : ∃ w7, w6.drew = w7 ∧ w7.heap[w.heap.size + 1 + 1]? = some (.cells #[.int .i64 (cS B g 0), .int .i64 (cS B g 1), .int .i64 (cS B g 2), .int .i64 (cS B g 3)] 69) ∧ (∀ k, k ≠ w.heap.size + 1 + 1 → w7.heap[k]? = W.heap[k]?) ∧ Below (w.heap.size + 1 + 1) W w7 := ⟨_, rfl, g2, go6, gb6.drew⟩
    rw [hw7]
    have F3 := (go7 (w.heap.size + 1 + 1 + 1) (by omega)).trans HB3.out
    have F4 := (go7 (w.heap.size + 1 + 1 + 1 + 1) (by omega)).trans HB4.out
    refine hK.out _ _ ⟨cell_blk F3 0 rfl, cell_blk F4 0 rfl, cell_blk F4 1 rfl, cell_blk F4 2 rfl, cell_blk F4 3 rfl⟩ (fun hHeld => ?_)
    clear hK K
    (try simp only [List.getElem_toArray, List.getElem_cons_zero, List.getElem_cons_succ, Act.put, List.setIfInBounds_toArray, List.set_cons_zero, List.set_cons_succ])
    refine wpAnyH_done (by kernel_rfl) ?_ _; clear hHeld
    unfold onlyN
    have hK' := (go7 D (by have := HD.out; have := HW2.out; omega)).trans HKD.out
    have HG7 := Lib.hid ((World.putObj_heap_other (w := w7) (o := .deferred none) (show w.heap.size + 1 + 1 ≠ D by have := HD.out; have := HW2.out; omega)).trans g2')
    have HB7 : Hid (Below w.heap.size w w7) := (HBW.out.trans (HBw.out.mono (by omega))).trans (gb7.mono (by omega))
    have HU7 : Hid (GU w2.heap.size w7 u g) := HGU.out.kept (Ex := fun k => k = w.heap.size + 1 + 1) ⟨gb7.size, fun k o hk _ he => (go7 k he).trans hk⟩ (fun k hk => by have := HW2.out; omega)
    clear hw6 hw7 g2 go6 gb6 g2' gb7 F3 F4 m0 m1 m2 m3 u0 y0 y1 y2 y3 z0 z1 z2 z3
    gi_wp2
    refine ⟨by simp, .inl ⟨_, _, rfl, run_takeDeferred hK', ?_⟩⟩
    have hb8 := belowK_b (w := w) (Nat.le_refl _) w7 D (.deferred (some [])) (.deferred none) (by have := HD.out; have := HBW.out.size; omega) hK' rfl rfl
    exact ⟨_, resTC rfl rfl rfl HG7.out, ⟨u, by unfold cntV; rw [← HBE.out]; rfl, by rw [← HBE.out]; exact (GU.rec' (R := w2.heap.size) u g w7 D _ _ HU7.out HD.out hK' rfl).lower HBW.out.size⟩, HB7.out.trans hb8⟩

end Go.Proofs.Ytnnngbnimmcjiaa
