/-
  Add: one more want of a gift.
-/
import Derived.Test.YtnnngbnimmcjiaaEnterG
import Derived.Laws.ResultCell
import Derived.Laws.Rows
import Derived.Laws.Tables
import Derived.Laws.CopyOwn
namespace Go.Proofs.Ytnnngbnimmcjiaa
open Go.RowKit

/-- the value of what a gift gives -/
structure GV (B : SB) (cs : Array Value) (l : List Nat) : Prop where
  size : cs.size = 25
  c : ∀ i, i < 4 → cs[i]? = some (.int .i64 (cS B l i))
  g : ∀ i, i < 5 → cs[4 + i]? = some (.int .i64 (cG B l i))
  f : ∀ i j, i < 4 → j < 4 → cs[9 + i * 4 + j]? = some (.bool (fr B l i j))

def zeroG : Array Value := #[.int .i64 0, .int .i64 0, .int .i64 0, .int .i64 0, .int .i64 0, .int .i64 0, .int .i64 0, .int .i64 0, .int .i64 0, .bool false, .bool false, .bool false, .bool false, .bool false, .bool false, .bool false, .bool false, .bool false, .bool false, .bool false, .bool false, .bool false, .bool false, .bool false, .bool false]
theorem GV.zero (B : SB) : GV B zeroG [] := by
  refine ⟨rfl, fun i hi => ?_, fun i hi => ?_, fun i j hi hj => ?_⟩
  · have : i = 0 ∨ i = 1 ∨ i = 2 ∨ i = 3 := by omega
    rcases this with rfl | rfl | rfl | rfl <;> rfl
  · have : i = 0 ∨ i = 1 ∨ i = 2 ∨ i = 3 ∨ i = 4 := by omega
    rcases this with rfl | rfl | rfl | rfl | rfl <;> rfl
  · have h1 : i = 0 ∨ i = 1 ∨ i = 2 ∨ i = 3 := by omega
    have h2 : j = 0 ∨ j = 1 ∨ j = 2 ∨ j = 3 := by omega
    rcases h1 with rfl | rfl | rfl | rfl <;> rcases h2 with rfl | rfl | rfl | rfl <;> rfl

/-- with one more want -/
def addV (B : SB) (cs : Array Value) (l : List Nat) (k : Nat) : Array Value :=
  ((cs.setIfInBounds (B.sN k) (.int .i64 ((cS B l (B.sN k) : Nat) + 1))).setIfInBounds (4 + B.gN k) (.int .i64 ((cG B l (B.gN k) : Nat) + 1))).setIfInBounds (9 + B.sN k * 4 + B.fN k) (.bool true)
theorem GV.add {B : SB} {cs : Array Value} {l : List Nat} (h : GV B cs l) (k : Nat) (h1 : B.sN k < 4) (h2 : B.gN k < 5) (h3 : B.fN k < 4) : GV B (addV B cs l k) (l ++ [k]) := by
  obtain ⟨hz, hc, hg, hf⟩ := h
  refine ⟨by simp [addV, hz], fun i hi => ?_, fun i hi => ?_, fun i j hi hj => ?_⟩
  · unfold addV
    rw [Array.getElem?_setIfInBounds_ne (by omega), Array.getElem?_setIfInBounds_ne (by omega), cS_snoc]
    by_cases e : i = B.sN k
    · rw [← e, Array.getElem?_setIfInBounds_self_of_lt (by omega)]; simp
    · rw [Array.getElem?_setIfInBounds_ne (fun e' => e e'.symm), hc i hi, if_neg e]; rfl
  · unfold addV
    rw [Array.getElem?_setIfInBounds_ne (by omega), cG_snoc]
    by_cases e : i = B.gN k
    · rw [← e, Array.getElem?_setIfInBounds_self_of_lt (by simp; omega)]; simp
    · rw [Array.getElem?_setIfInBounds_ne (by omega), Array.getElem?_setIfInBounds_ne (by omega), hg i hi, if_neg e]; rfl
  · unfold addV
    rw [fr_snoc]
    by_cases e : i = B.sN k ∧ j = B.fN k
    · obtain ⟨e1, e2⟩ := e
      rw [← e1, ← e2, Array.getElem?_setIfInBounds_self_of_lt (by simp; omega)]; simp
    · rw [Array.getElem?_setIfInBounds_ne (by omega), Array.getElem?_setIfInBounds_ne (by omega), Array.getElem?_setIfInBounds_ne (by omega), hf i j hi hj]
      have : (decide (i = B.sN k) && decide (j = B.fN k)) = false := by
        by_cases e1 : i = B.sN k
        · have e2 : ¬ j = B.fN k := fun x => e ⟨e1, x⟩
          simp [e2]
        · simp [e1]
      rw [this, Bool.or_false]

theorem GV.one {B : SB} {cs : Array Value} {l : List Nat} (h : GV B cs l) : cs.all (·.oneCell') = true := by
  refine Array.all_eq_true.2 fun i hi => ?_
  have h25 := h.size
  have e : cs[i]? = some cs[i] := Array.getElem?_eq_getElem hi
  by_cases h4 : i < 4
  · rw [Option.some.inj (e.symm.trans (h.c i h4))]; rfl
  · by_cases h9 : i < 9
    · have g := h.g (i - 4) (by omega)
      rw [show 4 + (i - 4) = i by omega] at g
      rw [Option.some.inj (e.symm.trans g)]; rfl
    · have g := h.f ((i - 9) / 4) ((i - 9) % 4) (by omega) (by omega)
      rw [show 9 + (i - 9) / 4 * 4 + (i - 9) % 4 = i by omega] at g
      rw [Option.some.inj (e.symm.trans g)]; rfl

theorem wp_ldG {ops : Array Oper} {rest : List Oper} {o : Oper} {a : Act} {W : World} {Q : Exit → Act → World → Prop} (hgd : o.guard = none) (x : Operand) (ho : o.op = .load 78 x) (g : Nat) (hx : a.eval x = .pointer (some ⟨g, 0, none⟩))
    {t : TypeId} {cs : Array Value} (hg : W.heap[g]? = some (.cells cs t)) (hs : cs.size = 25) (h : wpList Try.prog ops Q rest (a.put o.dst (.agg cs)) W) : wpList Try.prog ops Q (o :: rest) a W :=
  wpList_load_row hgd 78 x ho g hx t cs (0, 0) _ hg Try.underlying78 rfl (by rw [hs]; kernel_rfl) h
theorem wp_stG {ops : Array Oper} {rest : List Oper} {o : Oper} {a : Act} {W : World} {Q : Exit → Act → World → Prop} (hgd : o.guard = none) (x y : Operand) (ho : o.op = .store 78 x y) (g : Nat) (cs : Array Value) (hx : a.eval x = .pointer (some ⟨g, 0, none⟩)) (hy : a.eval y = .agg cs)
    {t : TypeId} {old : Array Value} (hg : W.heap[g]? = some (.cells old t)) (ho' : old.size = 25) (hs : cs.size = 25) (h1 : cs.all (·.oneCell') = true) (h : wpList Try.prog ops Q rest (a.put o.dst undef) (W.setRow g cs)) : wpList Try.prog ops Q (o :: rest) a W :=
  wpList_store_row hgd 78 x y ho g cs hx hy t old hg (by rw [hs]; kernel_rfl) (by rw [ho', hs]) h1 h
theorem ldV {W : World} {g : Nat} {t : TypeId} {cs : Array Value} (h : W.heap[g]? = some (.cells cs t)) (hs : cs.size = 25) : (loadVar 78 ⟨g, 0, none⟩).run Try.prog W = .ok (.agg cs) W :=
  run_loadVar_row (P := Try.prog) W g t 78 cs (0, 0) _ h Try.underlying78 rfl (by rw [hs]; kernel_rfl)
theorem stV {W : World} {g : Nat} {t : TypeId} {old cs : Array Value} (h : W.heap[g]? = some (.cells old t)) (ho : old.size = 25) (hs : cs.size = 25) (h1 : cs.all (·.oneCell') = true) : (storeVar 78 ⟨g, 0, none⟩ (.agg cs)).run Try.prog W = .ok () (W.setRow g cs) :=
  run_storeVar_row (P := Try.prog) W g t 78 old cs h (by rw [hs]; kernel_rfl) (by rw [ho, hs]) h1
theorem resGT {fn : Func} {p u : Tmp} (hf : fn.results = #[.cell p 78, .tmp u]) {tmps : Array Value} {W : World} {g : Nat} {t : TypeId} {cs : Array Value} {x : Value} (hp : tmps.getD p undef = .pointer (some ⟨g, 0, none⟩)) (hx : tmps.getD u undef = x)
    (h : W.heap[g]? = some (.cells cs t)) (hs : cs.size = 25) : (results fn tmps).run Try.prog W = .ok (.tuple #[.agg cs, x]) W := by
  rw [results_cell_tmp hf, hp, hx]
  simp only [asAddr, Sem.run_pure, Result.andThen_ok, run_loadVar_row (P := Try.prog) W g t 78 cs (0, 0) _ h Try.underlying78 rfl (by rw [hs]; kernel_rfl)]

/-- a cell of block g is stored: the block, and the others -/
theorem set_step {W W0 : World} {g n : Nat} {cs : Array Value} {t : TypeId} (h : W.heap[g]? = some (.cells cs t)) (ho : ∀ b, b ≠ g → W.heap[b]? = W0.heap[b]?) (i : Nat) (v : Value) (hn : n ≤ g) :
    ∃ W', W.setCell ⟨g, i, none⟩ v = W' ∧ W'.heap[g]? = some (.cells (cs.setIfInBounds i v) t) ∧ (∀ b, b ≠ g → W'.heap[b]? = W0.heap[b]?) ∧ Below n W W' := by
  refine ⟨_, rfl, blk_set h i v, fun b hb => ?_, (Below.refl n W).setCell (p := ⟨g, i, none⟩) hn v⟩
  rw [← ho b hb]
  show (W.heap.modify g _)[b]? = _
  rw [Array.getElem?_modify, if_neg (fun e => hb e.symm)]
theorem blk_cell {W : World} {b : Nat} {cs : Array Value} {t : TypeId} (h : W.heap[b]? = some (.cells cs t)) (i : Nat) {x : Value} (hx : cs[i]? = some x) : W.cell? ⟨b, i, none⟩ = some x := cell_blk h i hx
theorem below_more {N : Nat} {a w : World} (h : Below N a w) (n : Nat) : Below N a (w.drewN n) := below_drewN h n

theorem allocs3 (w : World) (o1 o2 o3 : Obj) : ∃ ws : World, ((w.alloc o1).alloc o2).alloc o3 = ws ∧ Hid (Below w.heap.size w ws) ∧ ws.heap.size = w.heap.size + 3 ∧
    ws.heap[w.heap.size]? = some o1 ∧ ws.heap[w.heap.size + 1]? = some o2 ∧ ws.heap[w.heap.size + 1 + 1]? = some o3 := by
  refine ⟨_, rfl, (below2 (Nat.le_refl _) o1 o2).alloc (by simp; omega) o3, by simp, ?_, ?_, ?_⟩
  · rw [Below.heap_alloc _ _ _ (by simp; omega), Below.heap_alloc _ _ _ (by simp)]; exact World.alloc_heap_new _ _
  · rw [Below.heap_alloc _ _ _ (by simp)]
    have := World.alloc_heap_new (w.alloc o1) o2
    rwa [World.size_alloc] at this
  · have := World.alloc_heap_new ((w.alloc o1).alloc o2) o3
    rwa [World.size_alloc, World.size_alloc] at this

set_option maxRecDepth 100000 in
set_option maxHeartbeats 3200000 in
theorem add_any (N : Nat) (v : Value) (B : SB) (cs : Array Value) (l : List Nat) (k p : Nat) (w : World) (h : BookAt N w v B) (hG : GoodL B p) (hV : GV B cs l) (hk : k < B.nw) (hl : l.length ≤ 1000) :
    Calls Try.prog 75 #[v, .agg cs, .int .i64 k] w fun e w' => (∃ cs', e = .returned (.tuple #[.agg cs', .bool (addOK B l k)]) ∧ (addOK B l k = true → GV B cs' (l ++ [k])) ∧ (addOK B l k = false → cs' = zeroG)) ∧ Below w.heap.size w w' := by
  have h' := h
  obtain ⟨_, a1, z1, a2, z2, a3, z3, rfl, _⟩ := h'
  obtain ⟨ws, hws, HB, hsz, hblk, hblk1, hblk2⟩ := allocs3 w (.cells #[.slice a1 B.ns z1, .slice a2 B.ng z2, .slice a3 B.nw z3] 62) (.cells cs 78) (.cells zeroG 78)
  have q0 := cell_blk hblk 0 rfl
  have q1 := cell_blk hblk 1 rfl
  have q2 := cell_blk hblk 2 rfl
  unfold zeroG at hws
  have HBK := Lib.hid (h.go HB.out)
  have HB0 : Hid (Below ws.heap.size ws ws) := Below.refl _ _
  have HNS : Hid (N ≤ ws.heap.size) := HBK.out.1
  obtain ⟨s, es⟩ : ∃ s, B.sN k = s := ⟨_, rfl⟩
  obtain ⟨a, ea⟩ : ∃ a, B.gN k = a := ⟨_, rfl⟩
  obtain ⟨f, ef⟩ : ∃ f, B.fN k = f := ⟨_, rfl⟩
  have hs := hG.sN hk
  have ha := hG.gN hk
  have hf := hG.fN hk
  have hns := hG.ns
  have hng := hG.ng
  rw [es] at hs
  rw [ea] at ha
  rw [ef, ea] at hf
  obtain ⟨hs, hsk⟩ := hs
  obtain ⟨ha, hak⟩ := ha
  obtain ⟨hf, hfk⟩ := hf
  have hcs := hV.c s (by omega)
  have hca := hV.g a (by omega)
  have hcf := hV.f s f (by omega) (by omega)
  obtain ⟨b3, off3, rfl, hb3, hr3⟩ := (HBK.out.go HB0.out).wants.cells (by omega)
  obtain ⟨k0, k1⟩ := hr3 k hk
  rw [hak] at k0
  rw [hsk] at k1
  obtain ⟨b2, off2, rfl, hb2, hr2⟩ := (HBK.out.go HB0.out).gardens.cells (by omega)
  obtain ⟨g0, g1⟩ := hr2 a ha
  rw [hfk] at g1
  obtain ⟨b1, off1, rfl, hb1, hr1⟩ := (HBK.out.go HB0.out).scions.cells (by omega)
  have c0 := hr1 s hs
  have d0 := cell_blk hblk1 s hcs
  have d1 := cell_blk hblk1 (4 + a) hca
  have d2 := cell_blk hblk1 (9 + s * 4 + f) hcf
  obtain ⟨wm, hwm, HBm, hszm, hblkm⟩ := box1 ws (.cells #[.int .i64 a, .int .i64 s] 43)
  have m0 := cell_blk hblkm 0 rfl
  have m1 := cell_blk hblkm 1 rfl
  have hb2' : b2 < ws.heap.size := Nat.lt_of_lt_of_le hb2 HNS.out
  have n0 := (HBm.out.cell (p := ⟨b2, off2 + a * 2, none⟩) hb2').trans g0
  have n1 := (HBm.out.cell (p := ⟨b2, off2 + a * 2 + 1, none⟩) hb2').trans g1
  have n2 := (HBm.out.cell (p := ⟨w.heap.size, 1, none⟩) (show w.heap.size < ws.heap.size by omega)).trans q1
  obtain ⟨wv, hwv, HBw, hszv, hblkv⟩ := box1 wm (.cells #[.int .i64 (B.P a), .int .i64 f] 49)
  have y0 := cell_blk hblkv 0 rfl
  have y1 := cell_blk hblkv 1 rfl
  have x0 := (HBw.out.cell (p := ⟨ws.heap.size, 0, none⟩) hszm).trans m0
  have x1 := (HBw.out.cell (p := ⟨ws.heap.size, 1, none⟩) hszm).trans m1
  have HBv := Lib.hid (bel HBm.out HBw.out)
  have HWB := Lib.hid ((HBw.out.block _ hszm).trans hblkm)
  have HGB := Lib.hid hblkv
  have hszw : w.heap.size + 1 + 1 < ws.heap.size := by omega
  have hsz0 : w.heap.size < ws.heap.size := by omega
  have hsz1 : w.heap.size + 1 < ws.heap.size := by omega
  have HSZ := Lib.hid hsz
  have hki : (k : Int) < (B.nw : Int) := by omega
  have hai : (a : Int) < (B.ng : Int) := by omega
  have hsi : (s : Int) < (B.ns : Int) := by omega
  have hs4 : (s : Int) < 4 := by omega
  have ha5 : (a : Int) < 5 := by omega
  have hf4 : (f : Int) < 4 := by omega
  have mv : ∀ (b o : Nat), b < ws.heap.size → wv.cell? ⟨b, o, none⟩ = ws.cell? ⟨b, o, none⟩ := fun b o hb => HBv.out.cell (p := ⟨b, o, none⟩) hb
  have hb1' : b1 < ws.heap.size := Nat.lt_of_lt_of_le hb1 HNS.out
  have HBz : Hid (Below wv.heap.size wv wv) := Below.refl _ _
  have HV := Lib.hid hV
  have HGv := Lib.hid hblk1
  have HZv := Lib.hid hblk2
  have HES := Lib.hid es
  have HEA := Lib.hid ea
  have HEF := Lib.hid ef
  clear hr1 hr2 hr3 hblk hblk1 hblk2 hblkm hblkv hV hsz hcs hca hcf hG h es ea ef
  cases e1 : ((cS B l s : Nat) : Int) == B.C s with
  | true =>
    have HOK : Hid (addOK B l k = false) := by
      unfold Hid addOK; rw [HES.out]
      have : ((cS B l s : Nat) : Int) = B.C s := by simpa using e1
      simp [this]
    go_enter Try.func75, Try.ntmps75
    go_wp2
    go_quiet (fail)
    obtain ⟨wq, hwq, HBQ⟩ : ∃ wq, wv.drewN nq = wq ∧ Hid (Below ws.heap.size ws wq) := ⟨_, rfl, below_drewN HBv.out nq⟩
    rw [hwq]
    clear hwq mv
    go_wp2_with (refine wp_stG rfl _ _ rfl (w.heap.size + 1 + 1) zeroG rfl rfl (t := 78) (old := zeroG) ((HBQ.out.block _ hszw).trans HZv.out) rfl rfl (GV.zero B).one ?_)
    refine bodyPost_ret (v := .tuple #[.agg zeroG, .bool false]) (resGT rfl rfl rfl (setRow_heap _ _ zeroG zeroG _ _ ((HBQ.out.block _ hszw).trans HZv.out)) rfl) rfl ?_
    exact ⟨⟨zeroG, by rw [HOK.out], fun h => (by rw [HOK.out] at h; cases h), fun _ => rfl⟩, (fin HB.out HBQ.out).trans (below_setRow (Below.refl _ _) (by omega) _)⟩
  | false =>
    cases e2 : ((cG B l a : Nat) : Int) == B.P a with
    | true =>
      have HOK : Hid (addOK B l k = false) := by
        unfold Hid addOK; rw [HEA.out]
        have : ((cG B l a : Nat) : Int) = B.P a := by simpa using e2
        simp [this]
      go_enter Try.func75, Try.ntmps75
      go_wp2
      go_quiet (fail)
      obtain ⟨wq, hwq, HBQ⟩ : ∃ wq, wv.drewN nq = wq ∧ Hid (Below ws.heap.size ws wq) := ⟨_, rfl, below_drewN HBv.out nq⟩
      rw [hwq]
      clear hwq mv
      go_wp2_with (refine wp_stG rfl _ _ rfl (w.heap.size + 1 + 1) zeroG rfl rfl (t := 78) (old := zeroG) ((HBQ.out.block _ hszw).trans HZv.out) rfl rfl (GV.zero B).one ?_)
      refine bodyPost_ret (v := .tuple #[.agg zeroG, .bool false]) (resGT rfl rfl rfl (setRow_heap _ _ zeroG zeroG _ _ ((HBQ.out.block _ hszw).trans HZv.out)) rfl) rfl ?_
      exact ⟨⟨zeroG, by rw [HOK.out], fun h => (by rw [HOK.out] at h; cases h), fun _ => rfl⟩, (fin HB.out HBQ.out).trans (below_setRow (Below.refl _ _) (by omega) _)⟩
    | false =>
      have HOK' : Hid (addOK B l k = !fr B l s f) := by
        unfold Hid addOK; rw [HEA.out, HES.out, HEF.out]
        have h1 : ¬ ((cS B l s : Nat) : Int) = B.C s := by simpa using e1
        have h2 : ¬ ((cG B l a : Nat) : Int) = B.P a := by simpa using e2
        simp [h1, h2]
      cases e3 : fr B l s f with
      | true =>
        have HOK : Hid (addOK B l k = false) := by unfold Hid; rw [HOK'.out, e3]; rfl
        rw [e3] at d2
        go_enter Try.func75, Try.ntmps75
        go_wp2
        go_quiet (fail)
        obtain ⟨wq, hwq, HBQ⟩ : ∃ wq, wv.drewN nq = wq ∧ Hid (Below ws.heap.size ws wq) := ⟨_, rfl, below_drewN HBv.out nq⟩
        rw [hwq]
        clear hwq mv
        go_wp2_with (refine wp_stG rfl _ _ rfl (w.heap.size + 1 + 1) zeroG rfl rfl (t := 78) (old := zeroG) ((HBQ.out.block _ hszw).trans HZv.out) rfl rfl (GV.zero B).one ?_)
        refine bodyPost_ret (v := .tuple #[.agg zeroG, .bool false]) (resGT rfl rfl rfl (setRow_heap _ _ zeroG zeroG _ _ ((HBQ.out.block _ hszw).trans HZv.out)) rfl) rfl ?_
        exact ⟨⟨zeroG, by rw [HOK.out], fun h => (by rw [HOK.out] at h; cases h), fun _ => rfl⟩, (fin HB.out HBQ.out).trans (below_setRow (Below.refl _ _) (by omega) _)⟩
      | false =>
        have HOK : Hid (addOK B l k = true) := by unfold Hid; rw [HOK'.out, e3]; rfl
        rw [e3] at d2
        have hcl : cS B l s ≤ 1000 := Nat.le_trans List.countP_le_length hl
        have hgl : cG B l a ≤ 1000 := Nat.le_trans List.countP_le_length hl
        go_enter Try.func75, Try.ntmps75
        go_wp2
        go_quiet (fail)
        obtain ⟨wq, hwq, HBQ⟩ : ∃ wq, wv.drewN nq = wq ∧ Hid (Below ws.heap.size ws wq) := ⟨_, rfl, below_drewN HBv.out nq⟩
        have HO0 : Hid (∀ b, b ≠ w.heap.size + 1 → wq.heap[b]? = wv.heap[b]?) := fun b _ => by rw [← hwq]; rfl
        rw [hwq]
        clear hwq mv
        have hwn : ws.heap.size ≠ w.heap.size + 1 := by omega
        have hgn : wm.heap.size ≠ w.heap.size + 1 := by omega
        have hzn : w.heap.size + 1 + 1 ≠ w.heap.size + 1 := by omega
        have HG0 := Lib.hid ((HBQ.out.block _ hsz1).trans HGv.out)
        have HZ0 := Lib.hid ((HBv.out.block _ hszw).trans HZv.out)
        have r0 := cell_blk HG0.out s (HV.out.c s (by omega))
        have fz := free_blk HG0.out s
        have t0 := cell_blk ((HO0.out _ hwn).trans HWB.out) 1 rfl
        clear x0 x1 y0 y1 d0 d1 d2 m0 m1 n0 n1 n2
        go_upto_region 6 with fail
        obtain ⟨w5, hw5, hg5, ho5, hb5⟩ := set_step (n := w.heap.size) HG0.out HO0.out s (.int .i64 ((cS B l s : Nat) + 1)) (by omega)
        rw [hw5]
        clear hw5 r0 fz t0
        have HG5 := Lib.hid hg5
        have HO5 := Lib.hid ho5
        have HB5 := Lib.hid hb5
        have c5 := hg5
        have r0 : w5.cell? ⟨w.heap.size + 1, 4 + a, none⟩ = some (.int .i64 (cG B l a : Nat)) := cell_blk hg5 (4 + a) (by rw [Array.getElem?_setIfInBounds_ne (by omega)]; exact HV.out.g a (by omega))
        have fz := free_blk hg5 (4 + a)
        have t0 := cell_blk ((ho5 _ hwn).trans HWB.out) 0 rfl
        clear hg5 ho5 hb5 c5
        go_upto_region 7 with fail
        obtain ⟨w6, hw6, hg6, ho6, hb6⟩ := set_step (n := w.heap.size) HG5.out HO5.out (4 + a) (.int .i64 ((cG B l a : Nat) + 1)) (by omega)
        rw [hw6]
        clear hw6 r0 fz t0
        have HG6 := Lib.hid hg6
        have HO6 := Lib.hid ho6
        have HB6 := Lib.hid hb6
        have fz := free_blk hg6 (9 + s * 4 + f)
        have r0 : w6.cell? ⟨w.heap.size + 1, 9 + s * 4 + f, none⟩ = some (.bool false) := cell_blk hg6 (9 + s * 4 + f) (by rw [Array.getElem?_setIfInBounds_ne (by omega), Array.getElem?_setIfInBounds_ne (by omega), HV.out.f s f (by omega) hf, e3])
        have t1 := cell_blk ((ho6 _ hwn).trans HWB.out) 1 rfl
        have t2 := cell_blk ((ho6 _ hgn).trans HGB.out) 1 rfl
        clear hg6 ho6 hb6 HG5 HO5
        refine wp_region_held_drew (S := fun w' => w'.cell? ⟨ws.heap.size, 1, none⟩ = some (.int .i64 s) ∧ w'.cell? ⟨wm.heap.size, 1, none⟩ = some (.int .i64 f)) (by kernel_rfl) ⟨t1, t2⟩ (fun hHeld => ?_)
        (refine wpAnyH_take (i := 0) (v := ?_) rfl (by kernel_rfl) (by kernel_rfl) (by kernel_rfl) (fun _ _ _ h => h) (Or.inl ⟨by rfl, ?_⟩) (by assumption) ?_; rotate_left; (focus (intro w hSw; (try dsimp only at hSw); go_simp; (try with_reducible rfl))); (try simp only [List.getElem_toArray, List.getElem_cons_zero, List.getElem_cons_succ, Act.put, List.setIfInBounds_toArray, List.set_cons_zero, List.set_cons_succ])); (refine wpAnyH_take (i := 1) (v := ?_) rfl (by kernel_rfl) (by kernel_rfl) (by kernel_rfl) (fun _ _ _ h => h) (Or.inl ⟨by rfl, ?_⟩) (by assumption) ?_; rotate_left; (focus (intro w hSw; (try dsimp only at hSw); go_simp; (try with_reducible rfl))); (try simp only [List.getElem_toArray, List.getElem_cons_zero, List.getElem_cons_succ, Act.put, List.setIfInBounds_toArray, List.set_cons_zero, List.set_cons_succ])); (refine wpAnyH_take (i := 2) (v := ?_) rfl (by kernel_rfl) (by kernel_rfl) (by kernel_rfl) (fun _ _ _ h => h) (Or.inl ⟨by rfl, ?_⟩) (by assumption) ?_; rotate_left; (focus (intro w hSw; (try dsimp only at hSw); go_simp; (try with_reducible rfl))); (try simp only [List.getElem_toArray, List.getElem_cons_zero, List.getElem_cons_succ, Act.put, List.setIfInBounds_toArray, List.set_cons_zero, List.set_cons_succ])); (refine wpAnyH_take (i := 3) (v := ?_) rfl (by kernel_rfl) (by kernel_rfl) (by kernel_rfl) (fun _ _ _ h => h) (Or.inl ⟨by rfl, ?_⟩) (by assumption) ?_; rotate_left; (focus (intro w hSw; (try dsimp only at hSw); go_simp; (try with_reducible rfl))); (try simp only [List.getElem_toArray, List.getElem_cons_zero, List.getElem_cons_succ, Act.put, List.setIfInBounds_toArray, List.set_cons_zero, List.set_cons_succ])); (refine wpAnyH_take (i := 4) (v := ?_) rfl (by kernel_rfl) (by kernel_rfl) (by kernel_rfl) (fun _ _ _ h => h) (Or.inl ⟨by rfl, ?_⟩) (by assumption) ?_; rotate_left; (focus (intro w hSw; (try dsimp only at hSw); go_simp; (try with_reducible rfl))); (try simp only [List.getElem_toArray, List.getElem_cons_zero, List.getElem_cons_succ, Act.put, List.setIfInBounds_toArray, List.set_cons_zero, List.set_cons_succ])); (refine wpAnyH_take (i := 5) (v := ?_) rfl (by kernel_rfl) (by kernel_rfl) (by kernel_rfl) (fun _ _ _ h => h) (Or.inl ⟨by rfl, ?_⟩) (by assumption) ?_; rotate_left; (focus (intro w hSw; (try dsimp only at hSw); go_simp; (try with_reducible rfl))); (try simp only [List.getElem_toArray, List.getElem_cons_zero, List.getElem_cons_succ, Act.put, List.setIfInBounds_toArray, List.set_cons_zero, List.set_cons_succ])); (refine wpAnyH_take (i := 6) (v := ?_) rfl (by kernel_rfl) (by kernel_rfl) (by kernel_rfl) (fun _ _ _ h => h) (Or.inl ⟨by rfl, ?_⟩) (by assumption) ?_; rotate_left; (focus (intro w hSw; (try dsimp only at hSw); go_simp; (try with_reducible rfl))); (try simp only [List.getElem_toArray, List.getElem_cons_zero, List.getElem_cons_succ, Act.put, List.setIfInBounds_toArray, List.set_cons_zero, List.set_cons_succ]))
        refine wpAnyH_ready (rs := [7]) (by kernel_rfl) (by simp) ?_; refine AllReadyH.cons rfl (fun K hK => ?_) AllReadyH.nil; go_simp
        obtain ⟨wd, hwd, hgd, hod, hbd⟩ := set_step (n := w.heap.size) HG6.out HO6.out (9 + s * 4 + f) (.bool true) (by omega)
        rw [hwd]
        obtain ⟨w7, hw7, hg7, ho7, hb7⟩ : ∃ w7, wd.drew = w7 ∧ w7.heap[w.heap.size + 1]? = _ ∧ (∀ b, b ≠ w.heap.size + 1 → w7.heap[b]? = wv.heap[b]?) ∧ Below w.heap.size w6 w7 := ⟨_, rfl, hgd, hod, hbd.drew⟩
        rw [hw7]
        clear hgd hod hbd
        have HG7 := Lib.hid hg7
        have HO7 := Lib.hid ho7
        refine hK.out _ _ ⟨cell_blk ((ho7 _ hwn).trans HWB.out) 1 rfl, cell_blk ((ho7 _ hgn).trans HGB.out) 1 rfl⟩ (fun hHeld => ?_)
        clear hK K hw7 hwd
        refine wpAnyH_done (by kernel_rfl) ?_ _; clear hHeld
        have HV' := Lib.hid (HV.out.add k (by rw [HES.out]; omega) (by rw [HEA.out]; omega) (by rw [HEF.out]; exact hf))
        unfold addV at HV'
        rw [HES.out, HEA.out, HEF.out] at HV'
        have HZ7 := Lib.hid ((ho7 _ hzn).trans HZ0.out)
        have HB7 := Lib.hid ((fin HB.out HBQ.out).trans ((HB5.out.trans (HB6.out.trans hb7))))
        clear hg7 ho7 hb7
        obtain ⟨cs', hcs'⟩ : ∃ cs', ((cs.setIfInBounds s (.int .i64 ((cS B l s : Nat) + 1))).setIfInBounds (4 + a) (.int .i64 ((cG B l a : Nat) + 1))).setIfInBounds (9 + s * 4 + f) (.bool true) = cs' := ⟨_, rfl⟩
        rw [hcs'] at HV' HG7
        clear hcs'
        go_wp2_with (first
          | (refine wp_ldG rfl _ rfl (w.heap.size + 1) rfl (t := 78) (cs := cs') HG7.out HV'.out.size ?_)
          | (refine wp_stG rfl _ _ rfl (w.heap.size + 1 + 1) cs' rfl rfl (t := 78) (old := zeroG) HZ7.out rfl HV'.out.size HV'.out.one ?_))
        refine bodyPost_ret (v := .tuple #[.agg cs', .bool true]) (resGT rfl rfl rfl (setRow_heap _ _ zeroG cs' _ _ HZ7.out) HV'.out.size) rfl ?_
        exact ⟨⟨cs', by rw [HOK.out], fun _ => HV'.out, fun h => (by rw [HOK.out] at h; cases h)⟩, HB7.out.trans (below_setRow (Below.refl _ _) (by omega) _)⟩

end Go.Proofs.Ytnnngbnimmcjiaa
