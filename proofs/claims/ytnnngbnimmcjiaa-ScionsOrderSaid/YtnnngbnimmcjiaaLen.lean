/-
  Len: lengthen yields all gifts that begin as a given one, in their order.
-/
import Derived.Test.YtnnngbnimmcjiaaCount
import Derived.Test.YtnnngbnimmcjiaaRangeN
import Derived.Test.YtnnngbnimmcjiaaGifts
import Derived.ArgAppend
import Derived.Sort.CutIn
namespace Go.Proofs.Ytnnngbnimmcjiaa
open Go.RowKit Go.Shelf

attribute [local go_sem] Oper.semAt_some

/-- u is the list of a gift, in a block from lo on -/
def GU (lo : Nat) (W : World) (u : Value) (g : List Nat) : Prop :=
  (g = [] ∧ u = .slice none 0 0) ∨ (g ≠ [] ∧ ∃ b cap cur, u = .slice (some ⟨b, 0, none⟩) g.length cap ∧ lo ≤ b ∧ g.length ≤ cap ∧ W.heap[b]? = some (.cells cur 3) ∧ ∀ i, i < g.length → cur[i]? = some (.int .i64 (g.getD i 0 : Nat)))
theorem GU.kept {lo : Nat} {Ex : Nat → Prop} {W W' : World} {u : Value} {g : List Nat} (h : GU lo W u g) (hk : KeptC Ex W W') (hE : ∀ k, Ex k → k < lo) : GU lo W' u g := by
  rcases h with h | ⟨h0, b, cap, cur, h1, h2, h3, h4, h5⟩
  · exact .inl h
  · exact .inr ⟨h0, b, cap, cur, h1, h2, h3, hk.heap h4 (fun e => by have := hE b e; omega), h5⟩
theorem GU.below {lo : Nat} {W W' : World} {u : Value} {g : List Nat} (h : GU lo W u g) (hk : Below W.heap.size W W') : GU lo W' u g := by
  rcases h with h | ⟨h0, b, cap, cur, h1, h2, h3, h4, h5⟩
  · exact .inl h
  · exact .inr ⟨h0, b, cap, cur, h1, h2, h3, (hk.block b (heap_lt h4)).trans h4, h5⟩
theorem GU.ints {lo : Nat} {W : World} {u : Value} {g : List Nat} (h : GU lo W u g) (hl : g.length ≤ 1000) : IntsAt W.heap.size W u g.length (fun i => (g.getD i 0 : Nat)) := by
  rcases h with ⟨rfl, rfl⟩ | ⟨h0, b, cap, cur, rfl, h2, h3, h4, h5⟩
  · exact ⟨none, 0, rfl, by simp, fun h0 => absurd h0 (by simp)⟩
  · exact ⟨_, cap, rfl, by omega, fun _ => ⟨b, 0, rfl, heap_lt h4, fun i hi => ⟨_, cell_blk h4 (0 + i) (by rw [Nat.zero_add]; exact h5 i hi), rfl⟩⟩⟩
theorem GU.made {lo b0 : Nat} {W : World} {u : Value} {g : List Nat} {k : Nat} (h : W.ownsRow b0 3 1 u (g.length + 1) (g.map (fun i => Value.int .i64 (i : Nat)) ++ [.int .i64 (k : Nat)])) (hl : lo ≤ b0) : GU lo W u (g ++ [k]) := by
  obtain ⟨_, ⟨_, h2⟩ | ⟨b, cap, cur, rfl, h3, h4, h5, h6, h7, h8⟩⟩ := h
  · omega
  · refine .inr ⟨by simp, b, cap, cur, by simp, Nat.le_trans hl h3, by simp; omega, h4, fun i hi => ?_⟩
    have e : (cur.toList.take ((g.length + 1) * 1))[i]? = (g.map (fun i => Value.int .i64 (i : Nat)) ++ [.int .i64 (k : Nat)])[i]? := by rw [h8]
    rw [List.length_append, List.length_singleton] at hi
    rw [List.getElem?_take_of_lt (by omega), Array.getElem?_toList] at e
    rw [e]
    by_cases hig : i < g.length
    · rw [List.getElem?_append_left (by simpa using hig), List.getElem?_map]
      simp [List.getD, List.getElem?_append_left hig, List.getElem?_eq_getElem hig]
    · have : i = g.length := by omega
      subst this
      simp [List.getD]

theorem KeptC.refl (Ex : Nat → Prop) (W : World) : KeptC Ex W W := ⟨Nat.le_refl _, fun _ _ h _ _ => h⟩
theorem KeptC.of_below {Ex : Nat → Prop} {W W' : World} (h : Below W.heap.size W W') : KeptC Ex W W' := ⟨h.size, fun k o hk _ _ => (h.block k (heap_lt hk)).trans hk⟩
theorem IntsAt.keptC {Ex : Nat → Prop} {N : Nat} {A B : World} {v : Value} {n : Nat} {x : Nat → Int} (h : IntsAt N A v n x) (k : KeptC Ex A B) (hE : ∀ k, Ex k → N ≤ k) : IntsAt N B v n x := by
  obtain ⟨ao, cap, rfl, hn, hc⟩ := h
  refine ⟨ao, cap, rfl, hn, fun h0 => ?_⟩
  obtain ⟨b, off, rfl, hb, hr⟩ := hc h0
  exact ⟨b, off, rfl, hb, fun i hi => by obtain ⟨r, h1, h2⟩ := hr i hi; exact ⟨r, k.cell h1 (fun e => by have := hE _ e; simp at this; omega), h2⟩⟩
theorem PairsAt.keptC {Ex : Nat → Prop} {N : Nat} {A B : World} {v : Value} {n : Nat} {x y : Nat → Int} (h : PairsAt N A v n x y) (k : KeptC Ex A B) (hE : ∀ k, Ex k → N ≤ k) : PairsAt N B v n x y := by
  obtain ⟨ao, cap, rfl, hn, hca, hc⟩ := h
  refine ⟨ao, cap, rfl, hn, hca, fun h0 => ?_⟩
  obtain ⟨b, off, rfl, hb, hr⟩ := hc h0
  exact ⟨b, off, rfl, hb, fun i hi => ⟨k.cell (hr i hi).1 (fun e => by have := hE _ e; simp at this; omega), k.cell (hr i hi).2 (fun e => by have := hE _ e; simp at this; omega)⟩⟩
theorem BookAt.keptC {Ex : Nat → Prop} {N : Nat} {A C : World} {v : Value} {B : SB} (h : BookAt N A v B) (k : KeptC Ex A C) (hE : ∀ k, Ex k → N ≤ k) : BookAt N C v B := by
  obtain ⟨hs, a1, c1, a2, c2, a3, c3, rfl, h1, h2, h3⟩ := h
  exact ⟨Nat.le_trans hs k.1, a1, c1, a2, c2, a3, c3, rfl, h1.keptC k hE, h2.keptC k hE, h3.keptC k hE⟩

theorem wpIn_ldG {n : Nat} {ops : Array Oper} {rest : List Oper} {o : Oper} {a : Act} {W : World} {Q : Exit → Act → World → Prop} (hgd : o.guard = none) (x : Operand) (ho : o.op = .load 78 x) (g : Nat) (hx : a.eval x = .pointer (some ⟨g, 0, none⟩))
    {t : TypeId} {cs : Array Value} (hg : W.heap[g]? = some (.cells cs t)) (hs : cs.size = 25) (h : wpListIn Fence.wide n Try.prog ops Q rest (a.put o.dst (.agg cs)) W) : wpListIn Fence.wide n Try.prog ops Q (o :: rest) a W :=
  wpListIn_plain hgd fun _ hK => op_wide (by rw [ho]; intro c h; cases h) (wp_load_row 78 x ho g hx t cs (0, 0) _ hg Try.underlying78 rfl (by rw [hs]; kernel_rfl) (hK _ _ h))
theorem wpIn_stG {n : Nat} {ops : Array Oper} {rest : List Oper} {o : Oper} {a : Act} {W : World} {Q : Exit → Act → World → Prop} (hgd : o.guard = none) (x y : Operand) (ho : o.op = .store 78 x y) (g : Nat) (cs : Array Value) (hx : a.eval x = .pointer (some ⟨g, 0, none⟩)) (hy : a.eval y = .agg cs)
    {t : TypeId} {old : Array Value} (hg : W.heap[g]? = some (.cells old t)) (ho' : old.size = 25) (hs : cs.size = 25) (h1 : cs.all (·.oneCell') = true) (h : wpListIn Fence.wide n Try.prog ops Q rest (a.put o.dst undef) (W.setRow g cs)) : wpListIn Fence.wide n Try.prog ops Q (o :: rest) a W :=
  wpListIn_plain hgd fun _ hK => op_wide (by rw [ho]; intro c h; cases h) (wp_store_row 78 x y ho g cs hx hy t old hg (by rw [hs]; kernel_rfl) (by rw [ho', hs]) h1 (hK _ _ h))

theorem wp_append_grows {P : Program} (w : World) {o : Oper} {a : Act} {K : Act → World → Prop} {Q : Exit → Act → World → Prop}
    (s x : Operand) (t : TypeId) (hop : o.op = Op.call { callee := Callee.builtin Builtin.append, args := #[s, x], argTypes := #[t, t] })
    (e : TypeId) (i : TypeInfo) (z : Value) (size bytes : Nat) (h1 : P.underlying t = some (.slice e)) (h2 : P.info? e = some i) (h3 : i.zero = some z) (h4 : i.size = size) (h5 : i.bytes = bytes) (h6 : z.cells.size = size) (h7 : 0 < size)
    (b : Addr) (n cap : Nat) (olds : List Value) (hs : a.eval s = .slice (some b) n cap) (hlo : olds.length = n * size) (holds : ∀ j u, olds[j]? = some u → w.cell? (b.add j) = some u)
    (ad : Addr) (m c : Nat) (news : List Value) (hx : a.eval x = .slice (some ad) m c) (hn : news.length = m * size) (hc : ∀ j u, news[j]? = some u → w.cell? (ad.add j) = some u) (h1c : ∀ u ∈ news, u.oneCell' = true)
    (hfull : cap < n + m) (b1 : n + m ≤ maxLen) (b2 : (n + m) * bytes ≤ 140737488355328)
    (hK : ∀ v' w', w'.ownsRow w.heap.size e size v' (n + m) (olds ++ news) → w.grownBy w' none → K (a.put o.dst v') w') : o.wp P a w K Q := by
  obtain ⟨v', w', hrun, r1, r2⟩ := run_append_arg_grows (P := P) w t o.type e i z size bytes h1 h2 h3 h4 h5 h6 h7 b n cap olds hlo holds ad m c news hn hc hfull b1 b2
  unfold Oper.wp
  simp [execOp, hop, resolve, invoke, builtin, hs, hx, hrun, Result.andThen]
  exact hK v' w' r1 r2

theorem ldY {ops : Array Oper} {S : World → Prop} {o : Oper} {a : Act} (hw : Region.wanted o (yielded ops a.tmps) = true) (x : Operand) (ho : o.op = .load 78 x) (g : Nat) (hx : a.eval x = .pointer (some ⟨g, 0, none⟩)) {t : TypeId} {cs : Array Value}
    (hS : ∀ w, S w → w.heap[g]? = some (.cells cs t)) (hs : cs.size = 25) : YieldsIf Try.prog ops S o (.agg cs) a :=
  .inl ⟨hw, fun w hw' => by
    unfold execOp
    simp only [ho, hx, Instr.loadAt, Instr.sureAddr, Sem.run_bind, Sem.run_pure, Result.andThen_ok, run_loadVar_row (P := Try.prog) w g t 78 cs (0, 0) _ (hS w hw') Try.underlying78 rfl (by rw [hs]; kernel_rfl)]⟩

theorem wp_app {o : Oper} {a : Act} {K : Act → World → Prop} {Q : Exit → Act → World → Prop} (w : World) (s x : Operand) (ho : o.op = .call { callee := .builtin .append, args := #[s, x], argTypes := #[22, 22] })
    (g : List Nat) (k lo : Nat) (hlo : lo ≤ w.heap.size) (hl : g.length ≤ 1000) (uv : Value) (hs : a.eval s = uv)
    (hu : (g = [] ∧ uv = .slice none 0 0) ∨ ∃ b, uv = .slice (some ⟨b, 0, none⟩) g.length g.length ∧ ∀ i, i < g.length → w.cell? ⟨b, i, none⟩ = some (.int .i64 (g.getD i 0 : Nat)))
    (ad : Nat) (hx : a.eval x = .slice (some ⟨ad, 0, none⟩) 1 1) (hc : w.cell? ⟨ad, 0, none⟩ = some (.int .i64 k))
    (hK : ∀ v' w', GU lo w' v' (g ++ [k]) → Below w.heap.size w w' → K (a.put o.dst v') w') : o.wp Try.prog a w K Q := by
  obtain ⟨i0, hi, hz0, hz1, hz2⟩ := info_parts Try.infoInt
  have hc1 : ∀ j u, [Value.int .i64 (k : Nat)][j]? = some u → w.cell? ((⟨ad, 0, none⟩ : Addr).add j) = some u := fun j u hj => by
    cases j with
    | zero => simp at hj; rw [← hj]; exact hc
    | succ j => simp at hj
  rcases hu with ⟨rfl, rfl⟩ | ⟨b, rfl, hcs⟩
  · refine wp_append_own (P := Try.prog) w s x 22 ho w.heap.size 3 i0 (.int .i64 0) 1 8 Try.underlying22 hi hz0 hz1 hz2 rfl (by decide) _ 0 [] hs (World.ownsRow_nil _ _ _ _) ⟨ad, 0, none⟩ 1 1 [.int .i64 k] hx rfl hc1 (by simp [Value.oneCell']) (by decide) (by decide) (Nat.le_refl _) ?_
    intro v' w' hown hgrow _
    exact hK v' w' (GU.made (g := []) hown hlo) (grown_below hgrow)
  · refine wp_append_grows w s x 22 ho 3 i0 (.int .i64 0) 1 8 Try.underlying22 hi hz0 hz1 hz2 rfl (by decide) ⟨b, 0, none⟩ g.length g.length (g.map fun i => Value.int .i64 (i : Nat)) hs (by simp) (fun j u hj => ?_) ⟨ad, 0, none⟩ 1 1 [.int .i64 k] hx rfl hc1 (by simp [Value.oneCell']) (by omega) (by unfold maxLen; omega) (by omega) ?_
    · obtain ⟨hjl, rfl⟩ := List.getElem?_eq_some_iff.1 hj
      rw [List.length_map] at hjl
      have e : (⟨b, 0, none⟩ : Addr).add j = ⟨b, 0 + j, none⟩ := by unfold Addr.add; split <;> simp_all
      rw [e, Nat.zero_add, hcs j hjl]
      simp [List.getD, List.getElem?_eq_getElem hjl]
    · intro v' w' hown hgrow
      exact hK v' w' (GU.made hown hlo) (grown_below hgrow)

set_option maxRecDepth 100000 in
set_option maxHeartbeats 6400000 in
theorem lengthen_says (l N lo : Nat) (B : SB) (p : Nat) (Ex : Nat → Prop) (a1 a2 a3 : Option Addr) (z1 z2 z3 : Nat) (J : List (Value × List Nat) → World → Prop)
    (hN : N ≤ lo) (hE : ∀ k, Ex k → N ≤ k ∧ k < lo) (hG : GoodL B p)
    (hJ : ∀ s A C, J s A → Below A.heap.size A C → J s C)
    (hY : ∀ m pre u g W, J pre W → GU lo W u g → GOK B g → lo ≤ W.heap.size → YieldAt Fence.wide m Try.prog l #[u, cntV (cS B g)] W fun e W' => e = .returned (.bool true) ∧ J (pre ++ [(u, g)]) W' ∧ KeptC Ex W W') :
    ∀ (f n : Nat) (g : List Nat) (u : Value) (cs : Array Value) (pre : List (Value × List Nat)) (W : World), nxG g + f = B.nw → GOK B g → GU lo W u g → GV B cs g →
      BookAt N W (.agg #[.slice a1 B.ns z1, .slice a2 B.ng z2, .slice a3 B.nw z3]) B → lo ≤ W.heap.size → J pre W →
      CallsIn Fence.wide n Try.prog 88 #[.agg #[.slice a1 B.ns z1, .slice a2 B.ng z2, .slice a3 B.nw z3], u, .agg cs, .func (.yield l) #[] #[]] W fun e W' =>
        e = .returned (.bool true) ∧ ∃ xs : List (Value × List Nat), xs.map Prod.snd = g :: tailG B f g ∧ J (pre ++ xs) W' ∧ KeptC Ex W W' := by
  intro f
  induction f using Nat.strongRecOn with
  | ind f ih =>
  intro n g u cs pre W hf hg hu hv hb hlo hJ0
  have HN := Lib.hid hN
  have HE := Lib.hid hE
  have HG := Lib.hid hG
  have HJ := Lib.hid hJ
  have HY := Lib.hid hY
  have HIH := Lib.hid ih
  have HF := Lib.hid hf
  have HGK := Lib.hid hg
  have HV := Lib.hid hv
  have hnw := hG.nw
  obtain ⟨ws, hws, HB, hsz, hsz1, hblk, hblk1⟩ := box2 W (.cells #[.slice a1 B.ns z1, .slice a2 B.ng z2, .slice a3 B.nw z3] 62) (.cells cs 78)
  have d0 := cell_blk hblk1 0 (hv.c 0 (by omega))
  have d1 := cell_blk hblk1 1 (hv.c 1 (by omega))
  have d2 := cell_blk hblk1 2 (hv.c 2 (by omega))
  have d3 := cell_blk hblk1 3 (hv.c 3 (by omega))
  have HK0 := Lib.hid hblk
  have HK1 := Lib.hid hblk1
  have HU := Lib.hid (hu.below HB.out)
  have HBK := Lib.hid (hb.go HB.out)
  have HJ0 := Lib.hid (hJ _ _ _ hJ0 HB.out)
  have HLO := Lib.hid hlo
  clear hN hE hG hJ hY ih hf hg hv hu hb hblk hblk1 hJ0
  obtain ⟨fn, tmps, assign, body, hy, hR⟩ := HY.out (n - 1) pre u g ws HJ0.out HU.out HGK.out (Nat.le_trans HLO.out HB.out.size)
  unfold cntV at hy
  refine callsIn_of_wp Try.func88 rfl trivial ?_ rfl
  simp only [Try.ntmps88, List.size_toArray, List.length_cons, List.length_nil, Nat.reduceAdd, Nat.reduceSub, Array.replicate_succ, Array.replicate_zero, List.push_toArray, List.append_toArray, List.nil_append, List.cons_append]
  gi_wp2
  refine ⟨fun h => (by cases h), ?_⟩
  refine hR.mono ?_
  rintro e W3 ⟨rfl, hJ3, hk3⟩
  have HLE : Hid (nxG g ≤ B.nw) := HGK.out.top
  have hx0 : ¬ Ex W.heap.size := fun e => by have := (HE.out _ e).2; have := HLO.out; omega
  have hx1 : ¬ Ex (W.heap.size + 1) := fun e => by have := (HE.out _ e).2; have := HLO.out; omega
  have HX0 := Lib.hid hx0
  have HX1 := Lib.hid hx1
  have HK03 := Lib.hid (hk3.heap HK0.out hx0)
  have HK13 := Lib.hid (hk3.heap HK1.out hx1)
  have HB3 := Lib.hid (HBK.out.keptC hk3 (fun k h => (HE.out k h).1))
  have HU3 := Lib.hid (HU.out.kept hk3 (fun k h => (HE.out k h).2))
  have HKW : Hid (KeptC Ex W W3) := (KeptC.of_below HB.out).trans hk3
  have hl3 : lo ≤ W3.heap.size := Nat.le_trans HLO.out HKW.out.1
  clear hk3 hR hy hx0 hx1 d0 d1 d2 d3 hws hsz hsz1
  rcases id HU3.out with ⟨hg0, rfl⟩ | ⟨hg0, b, cap, cur, rfl, hlb, hcap, hblk, hcur⟩
  · have HG0 := Lib.hid hg0
    have HJ3 : Hid (J (pre ++ (.slice none 0 0, g) :: []) W3) := hJ3
    have hn0 : nxG g = 0 := by rw [hg0]; rfl
    have HN0 := Lib.hid hn0
    clear hJ3 hg0 hn0
    gi_upto_region 7 with fail

    gi_loopw [11] (fun i wr => ∃ (k : Nat) (xs : List (Value × List Nat)), nxG g ≤ k ∧ k ≤ B.nw ∧ i = .int .i64 k ∧ Hid (J (pre ++ (.slice none 0 0, g) :: xs) wr) ∧ Hid (xs.map Prod.snd ++ tailG B (B.nw - k) g = tailG B (B.nw - nxG g) g) ∧ Hid (KeptC Ex W3 wr)) (fun i _ => B.nw - (intOf i).toNat)
    case atStart => exact ⟨nxG g, [], Nat.le_refl _, HLE.out, by rw [HN0.out]; rfl, HJ3.out, rfl, KeptC.refl _ _⟩
    case round =>
      obtain ⟨k, xs, hk0, hk, rfl, HJr, HT, HKr⟩ := hrel
      have HK0r := Lib.hid (HKr.out.heap HK03.out HX0.out)
      have HK1r := Lib.hid (HKr.out.heap HK13.out HX1.out)
      have HBr := Lib.hid (HB3.out.keptC HKr.out (fun k h => (HE.out k h).1))
      have HUr := Lib.hid (HU3.out.kept HKr.out (fun k h => (HE.out k h).2))
      have q0 := cell_blk HK0r.out 0 rfl
      have q1 := cell_blk HK0r.out 1 rfl
      have q2 := cell_blk HK0r.out 2 rfl
      have hlr : lo ≤ wr.heap.size := Nat.le_trans hl3 HKr.out.1
      by_cases hkn : k < B.nw
      · have hki : (k : Int) < (B.nw : Int) := by omega
        have hgl := HGK.out.len
        have htop := HGK.out.top
        have HA := Lib.hid (callsIn_wide (n := n - 1).2 (add_any N _ B cs g k p wr HBr.out HG.out HV.out hkn (by omega)))
        have HST := Lib.hid (tailG_step B g hkn)
        have hb1w : W.heap.size < wr.heap.size := heap_lt HK0r.out
        cases ha : addOK B g k with
        | false =>
          have HT2 : Hid (xs.map Prod.snd ++ tailG B (B.nw - (k + 1)) g = tailG B (B.nw - nxG g) g) := by unfold Hid; have h1 := HT.out; rw [HST.out, ha] at h1; simpa using h1
          rw [ha] at HA
          gi_wp2_with (first
            | (refine wpIn_ldG rfl _ rfl (W.heap.size + 1) rfl (t := 78) (cs := cs) HK1r.out HV.out.size ?_)
            | (refine ⟨trivial, fun h => (by cases h), ?_⟩; gi_at_call 75; refine HA.out.mono ?_; clear HA; rintro e w1 ⟨⟨cs', rfl, _, hv0⟩, hb1⟩; have HZ := Lib.hid (hv0 rfl); have HB1 := Lib.hid hb1; clear hv0 hb1)
            | (refine wpIn_stG rfl _ _ rfl w1.heap.size cs' rfl rfl (t := 78) (old := zeroG) (World.alloc_heap_new _ _) rfl (by rw [HZ.out]; rfl) (by rw [HZ.out]; exact (GV.zero B).one) ?_; obtain ⟨w2, hw2, hz2, hb2⟩ := alloc_row (W := w1) (old := zeroG) (cs := cs') (t := 78); unfold zeroG at hw2; rw [hw2]; have HB2 := Lib.hid (bel HB1.out hb2); clear hz2 hb2 hw2))
          refine region_wide (S := fun _ => True) (by kernel_rfl) (by kernel_rfl) trivial (fun hHeld => ?_)
          (refine wpAnyH_take (i := 0) (v := ?_) rfl (by kernel_rfl) (by kernel_rfl) (by kernel_rfl) (fun _ _ _ h => h) (Or.inl ⟨by rfl, ?_⟩) (by assumption) ?_; rotate_left; (focus (intro w hSw; (try dsimp only at hSw); go_simp; (try with_reducible rfl))); (try simp only [List.getElem_toArray, List.getElem_cons_zero, List.getElem_cons_succ, Act.put, List.setIfInBounds_toArray, List.set_cons_zero, List.set_cons_succ])); (refine wpAnyH_take (i := 1) (v := ?_) rfl (by kernel_rfl) (by kernel_rfl) (by kernel_rfl) (fun _ _ _ h => h) (Or.inl ⟨by rfl, ?_⟩) (by assumption) ?_; rotate_left; (focus (intro w hSw; (try dsimp only at hSw); go_simp; (try with_reducible rfl))); (try simp only [List.getElem_toArray, List.getElem_cons_zero, List.getElem_cons_succ, Act.put, List.setIfInBounds_toArray, List.set_cons_zero, List.set_cons_succ]))
          (refine wpAnyH_take (i := 2) (v := undef) rfl (by kernel_rfl) (by kernel_rfl) (by kernel_rfl) (fun _ _ _ h => h) (Or.inr ⟨by rfl, rfl⟩) (by assumption) ?_; (try simp only [List.getElem_toArray, List.getElem_cons_zero, List.getElem_cons_succ, Act.put, List.setIfInBounds_toArray, List.set_cons_zero, List.set_cons_succ])); (refine wpAnyH_take (i := 3) (v := undef) rfl (by kernel_rfl) (by kernel_rfl) (by kernel_rfl) (fun _ _ _ h => h) (Or.inr ⟨by rfl, rfl⟩) (by assumption) ?_; (try simp only [List.getElem_toArray, List.getElem_cons_zero, List.getElem_cons_succ, Act.put, List.setIfInBounds_toArray, List.set_cons_zero, List.set_cons_succ])); (refine wpAnyH_take (i := 4) (v := undef) rfl (by kernel_rfl) (by kernel_rfl) (by kernel_rfl) (fun _ _ _ h => h) (Or.inr ⟨by rfl, rfl⟩) (by assumption) ?_; (try simp only [List.getElem_toArray, List.getElem_cons_zero, List.getElem_cons_succ, Act.put, List.setIfInBounds_toArray, List.set_cons_zero, List.set_cons_succ])); (refine wpAnyH_take (i := 5) (v := undef) rfl (by kernel_rfl) (by kernel_rfl) (by kernel_rfl) (fun _ _ _ h => h) (Or.inr ⟨by rfl, rfl⟩) (by assumption) ?_; (try simp only [List.getElem_toArray, List.getElem_cons_zero, List.getElem_cons_succ, Act.put, List.setIfInBounds_toArray, List.set_cons_zero, List.set_cons_succ])); (refine wpAnyH_take (i := 6) (v := undef) rfl (by kernel_rfl) (by kernel_rfl) (by kernel_rfl) (fun _ _ _ h => h) (Or.inr ⟨by rfl, rfl⟩) (by assumption) ?_; (try simp only [List.getElem_toArray, List.getElem_cons_zero, List.getElem_cons_succ, Act.put, List.setIfInBounds_toArray, List.set_cons_zero, List.set_cons_succ])); (refine wpAnyH_take (i := 7) (v := undef) rfl (by kernel_rfl) (by kernel_rfl) (by kernel_rfl) (fun _ _ _ h => h) (Or.inr ⟨by rfl, rfl⟩) (by assumption) ?_; (try simp only [List.getElem_toArray, List.getElem_cons_zero, List.getElem_cons_succ, Act.put, List.setIfInBounds_toArray, List.set_cons_zero, List.set_cons_succ])); (refine wpAnyH_take (i := 8) (v := undef) rfl (by kernel_rfl) (by kernel_rfl) (by kernel_rfl) (fun _ _ _ h => h) (Or.inr ⟨by rfl, rfl⟩) (by assumption) ?_; (try simp only [List.getElem_toArray, List.getElem_cons_zero, List.getElem_cons_succ, Act.put, List.setIfInBounds_toArray, List.set_cons_zero, List.set_cons_succ])); (refine wpAnyH_take (i := 9) (v := undef) rfl (by kernel_rfl) (by kernel_rfl) (by kernel_rfl) (fun _ _ _ h => h) (Or.inr ⟨by rfl, rfl⟩) (by assumption) ?_; (try simp only [List.getElem_toArray, List.getElem_cons_zero, List.getElem_cons_succ, Act.put, List.setIfInBounds_toArray, List.set_cons_zero, List.set_cons_succ])); (refine wpAnyH_take (i := 10) (v := undef) rfl (by kernel_rfl) (by kernel_rfl) (by kernel_rfl) (fun _ _ _ h => h) (Or.inr ⟨by rfl, rfl⟩) (by assumption) ?_; (try simp only [List.getElem_toArray, List.getElem_cons_zero, List.getElem_cons_succ, Act.put, List.setIfInBounds_toArray, List.set_cons_zero, List.set_cons_succ])); (refine wpAnyH_take (i := 11) (v := undef) rfl (by kernel_rfl) (by kernel_rfl) (by kernel_rfl) (fun _ _ _ h => h) (Or.inr ⟨by rfl, rfl⟩) (by assumption) ?_; (try simp only [List.getElem_toArray, List.getElem_cons_zero, List.getElem_cons_succ, Act.put, List.setIfInBounds_toArray, List.set_cons_zero, List.set_cons_succ])); (refine wpAnyH_take (i := 12) (v := undef) rfl (by kernel_rfl) (by kernel_rfl) (by kernel_rfl) (fun _ _ _ h => h) (Or.inr ⟨by rfl, rfl⟩) (by assumption) ?_; (try simp only [List.getElem_toArray, List.getElem_cons_zero, List.getElem_cons_succ, Act.put, List.setIfInBounds_toArray, List.set_cons_zero, List.set_cons_succ])); (refine wpAnyH_take (i := 13) (v := undef) rfl (by kernel_rfl) (by kernel_rfl) (by kernel_rfl) (fun _ _ _ h => h) (Or.inr ⟨by rfl, rfl⟩) (by assumption) ?_; (try simp only [List.getElem_toArray, List.getElem_cons_zero, List.getElem_cons_succ, Act.put, List.setIfInBounds_toArray, List.set_cons_zero, List.set_cons_succ]))
          (refine wpAnyH_take (i := 14) (v := ?_) rfl (by kernel_rfl) (by kernel_rfl) (by kernel_rfl) (fun _ _ _ h => h) (Or.inl ⟨by rfl, ?_⟩) (by assumption) ?_; rotate_left; (focus (intro w hSw; (try dsimp only at hSw); go_simp; (try with_reducible rfl))); (try simp only [List.getElem_toArray, List.getElem_cons_zero, List.getElem_cons_succ, Act.put, List.setIfInBounds_toArray, List.set_cons_zero, List.set_cons_succ]))
          refine wpAnyH_done (by kernel_rfl) ?_ _; clear hHeld
          unfold onlyN
          have HB2d := Lib.hid HB2.out.drew
          have HKd := Lib.hid (HKr.out.trans (KeptC.of_below HB2d.out))
          have HJd := Lib.hid (HJ.out _ _ _ HJr.out HB2d.out)
          gi_wp2
          go_roundw
          case rel => exact ⟨k + 1, xs, by omega, by omega, by go_num, HJd, HT2, HKd⟩
          case measure => simp [intOf]; omega
        | true =>
          rw [ha] at HA
          have HGS := Lib.hid (HGK.out.snoc hk0 hkn ha)
          have HTA := Lib.hid ha
          clear ha
          gi_wp2_with (first
            | (refine wpIn_ldG rfl _ rfl (W.heap.size + 1) rfl (t := 78) (cs := cs) HK1r.out HV.out.size ?_)
            | (refine ⟨trivial, fun h => (by cases h), ?_⟩; gi_at_call 75; refine HA.out.mono ?_; clear HA; rintro e w1 ⟨⟨cs', rfl, hv1, _⟩, hb1⟩; have HV' := Lib.hid (hv1 rfl); have HB1 := Lib.hid hb1; clear hv1 hb1)
            | (refine wpIn_stG rfl _ _ rfl w1.heap.size cs' rfl rfl (t := 78) (old := zeroG) (World.alloc_heap_new _ _) rfl HV'.out.size HV'.out.one ?_; obtain ⟨w2, hw2, hz2, hb2⟩ := alloc_row (W := w1) (old := zeroG) (cs := cs') (t := 78); unfold zeroG at hw2; rw [hw2]; have HC2 := Lib.hid hz2; have HB2 := Lib.hid (bel HB1.out hb2); clear hz2 hb2 hw2))
          have y0 := cell_blk ((HB2.out.block _ hb1w).trans HK0r.out) 0 rfl
          have y1 := cell_blk ((HB2.out.block _ hb1w).trans HK0r.out) 1 rfl
          have y2 := cell_blk ((HB2.out.block _ hb1w).trans HK0r.out) 2 rfl
          have hbw2 : W.heap.size < w2.heap.size := Nat.lt_of_lt_of_le hb1w HB2.out.size
          have HU2 := Lib.hid (HUr.out.below HB2.out)
          clear q0 q1 q2
          refine region_wide (S := fun w' => w'.cell? ⟨W.heap.size, 0, none⟩ = some (.slice a1 B.ns z1) ∧ w'.cell? ⟨W.heap.size, 1, none⟩ = some (.slice a2 B.ng z2) ∧ w'.cell? ⟨W.heap.size, 2, none⟩ = some (.slice a3 B.nw z3) ∧ w'.heap[w1.heap.size]? = some (.cells cs' 78)) (by kernel_rfl) (by kernel_rfl) ⟨y0, y1, y2, HC2.out⟩ (fun hHeld => ?_)
          (refine wpAnyH_take (i := 0) (v := ?_) rfl (by kernel_rfl) (by kernel_rfl) (by kernel_rfl) (fun _ _ _ h => h) (Or.inl ⟨by rfl, ?_⟩) (by assumption) ?_; rotate_left; (focus (intro w hSw; (try dsimp only at hSw); go_simp; (try with_reducible rfl))); (try simp only [List.getElem_toArray, List.getElem_cons_zero, List.getElem_cons_succ, Act.put, List.setIfInBounds_toArray, List.set_cons_zero, List.set_cons_succ])); (refine wpAnyH_take (i := 1) (v := ?_) rfl (by kernel_rfl) (by kernel_rfl) (by kernel_rfl) (fun _ _ _ h => h) (Or.inl ⟨by rfl, ?_⟩) (by assumption) ?_; rotate_left; (focus (intro w hSw; (try dsimp only at hSw); go_simp; (try with_reducible rfl))); (try simp only [List.getElem_toArray, List.getElem_cons_zero, List.getElem_cons_succ, Act.put, List.setIfInBounds_toArray, List.set_cons_zero, List.set_cons_succ])); (refine wpAnyH_take (i := 2) (v := ?_) rfl (by kernel_rfl) (by kernel_rfl) (by kernel_rfl) (fun _ _ _ h => h) (Or.inl ⟨by rfl, ?_⟩) (by assumption) ?_; rotate_left; (focus (intro w hSw; (try dsimp only at hSw); go_simp; (try with_reducible rfl))); (try simp only [List.getElem_toArray, List.getElem_cons_zero, List.getElem_cons_succ, Act.put, List.setIfInBounds_toArray, List.set_cons_zero, List.set_cons_succ])); (refine wpAnyH_take (i := 3) (v := ?_) rfl (by kernel_rfl) (by kernel_rfl) (by kernel_rfl) (fun _ _ _ h => h) (Or.inl ⟨by rfl, ?_⟩) (by assumption) ?_; rotate_left; (focus (intro w hSw; (try dsimp only at hSw); go_simp; (try with_reducible rfl))); (try simp only [List.getElem_toArray, List.getElem_cons_zero, List.getElem_cons_succ, Act.put, List.setIfInBounds_toArray, List.set_cons_zero, List.set_cons_succ])); (refine wpAnyH_take (i := 4) (v := ?_) rfl (by kernel_rfl) (by kernel_rfl) (by kernel_rfl) (fun _ _ _ h => h) (Or.inl ⟨by rfl, ?_⟩) (by assumption) ?_; rotate_left; (focus (intro w hSw; (try dsimp only at hSw); go_simp; (try with_reducible rfl))); (try simp only [List.getElem_toArray, List.getElem_cons_zero, List.getElem_cons_succ, Act.put, List.setIfInBounds_toArray, List.set_cons_zero, List.set_cons_succ])); (refine wpAnyH_take (i := 5) (v := ?_) rfl (by kernel_rfl) (by kernel_rfl) (by kernel_rfl) (fun _ _ _ h => h) (Or.inl ⟨by rfl, ?_⟩) (by assumption) ?_; rotate_left; (focus (intro w hSw; (try dsimp only at hSw); go_simp; (try with_reducible rfl))); (try simp only [List.getElem_toArray, List.getElem_cons_zero, List.getElem_cons_succ, Act.put, List.setIfInBounds_toArray, List.set_cons_zero, List.set_cons_succ])); (refine wpAnyH_take (i := 6) (v := ?_) rfl (by kernel_rfl) (by kernel_rfl) (by kernel_rfl) (fun _ _ _ h => h) (Or.inl ⟨by rfl, ?_⟩) (by assumption) ?_; rotate_left; (focus (intro w hSw; (try dsimp only at hSw); go_simp; (try with_reducible rfl))); (try simp only [List.getElem_toArray, List.getElem_cons_zero, List.getElem_cons_succ, Act.put, List.setIfInBounds_toArray, List.set_cons_zero, List.set_cons_succ])); (refine wpAnyH_take (i := 7) (v := ?_) rfl (by kernel_rfl) (by kernel_rfl) (by kernel_rfl) (fun _ _ _ h => h) (Or.inl ⟨by rfl, ?_⟩) (by assumption) ?_; rotate_left; (focus (intro w hSw; (try dsimp only at hSw); go_simp; (try with_reducible rfl))); (try simp only [List.getElem_toArray, List.getElem_cons_zero, List.getElem_cons_succ, Act.put, List.setIfInBounds_toArray, List.set_cons_zero, List.set_cons_succ]))
          (refine wpAnyH_take (i := 10) (v := .agg cs') rfl (by kernel_rfl) (by kernel_rfl) (by kernel_rfl) (fun _ _ _ h => h) (ldY (by rfl) _ rfl w1.heap.size rfl (t := 78) (fun _ h => h.2.2.2) HV'.out.size) (by assumption) ?_; (try simp only [List.getElem_toArray, List.getElem_cons_zero, List.getElem_cons_succ, Act.put, List.setIfInBounds_toArray, List.set_cons_zero, List.set_cons_succ]))
          (refine wpAnyH_take (i := 11) (v := ?_) rfl (by kernel_rfl) (by kernel_rfl) (by kernel_rfl) (fun _ _ _ h => h) (Or.inl ⟨by rfl, ?_⟩) (by assumption) ?_; rotate_left; (focus (intro w hSw; (try dsimp only at hSw); go_simp; (try with_reducible rfl))); (try simp only [List.getElem_toArray, List.getElem_cons_zero, List.getElem_cons_succ, Act.put, List.setIfInBounds_toArray, List.set_cons_zero, List.set_cons_succ]))
          refine wpAnyH_ready (rs := [8]) (by kernel_rfl) (by simp) ?_; refine AllReadyH.cons rfl (fun K hK => ?_) AllReadyH.nil; go_simp
          obtain ⟨w3, hw3, hb3, hc3⟩ : ∃ w3, (w2.alloc (.cells #[.int .i64 k] 3)).drew = w3 ∧ Below w2.heap.size w2 w3 ∧ w3.heap[w2.heap.size]? = some (.cells #[.int .i64 k] 3) := ⟨_, rfl, (below_alloc (Nat.le_refl _) _).drew, World.alloc_heap_new _ _⟩
          rw [hw3]
          have HB3 := Lib.hid (bel HB2.out hb3)
          have HC3 := Lib.hid hc3
          have HU3' := Lib.hid (HU2.out.below hb3)
          have hw12 : w1.heap.size < w2.heap.size := heap_lt HC2.out
          refine hK.out _ _ ⟨(hb3.cell (p := ⟨W.heap.size, 0, none⟩) hbw2).trans y0, (hb3.cell (p := ⟨W.heap.size, 1, none⟩) hbw2).trans y1, (hb3.cell (p := ⟨W.heap.size, 2, none⟩) hbw2).trans y2, (hb3.block _ hw12).trans HC2.out⟩ (fun hHeld => ?_)
          clear hK K hw3 hb3 hc3 y0 y1 y2
          (try simp only [List.getElem_toArray, List.getElem_cons_zero, List.getElem_cons_succ, Act.put, List.setIfInBounds_toArray, List.set_cons_zero, List.set_cons_succ])
          have hS3 := hHeld
          refine wpAnyH_ready (rs := [9]) (by kernel_rfl) (by simp) ?_; refine AllReadyH.cons rfl (fun K hK => ?_) AllReadyH.nil; rw [if_pos (by rfl)]
          refine wp_app w3 (.tmp 52) (.tmp 54) rfl g k lo (Nat.le_trans hlr HB3.out.size) (by omega) _ rfl (.inl ⟨HG0.out, rfl⟩) w2.heap.size rfl (cell_blk HC3.out 0 rfl) ?_
          intro v' w4 hgu hb4
          have HB4 := Lib.hid (bel HB3.out hb4)
          have HGU := Lib.hid hgu
          have hbw3 : W.heap.size < w3.heap.size := Nat.lt_of_lt_of_le hb1w HB3.out.size
          have hw13 : w1.heap.size < w3.heap.size := heap_lt hS3.2.2.2
          have hS4 : w4.cell? ⟨W.heap.size, 0, none⟩ = some (.slice a1 B.ns z1) ∧ w4.cell? ⟨W.heap.size, 1, none⟩ = some (.slice a2 B.ng z2) ∧ w4.cell? ⟨W.heap.size, 2, none⟩ = some (.slice a3 B.nw z3) ∧ w4.heap[w1.heap.size]? = some (.cells cs' 78) :=
            ⟨(hb4.cell (p := ⟨W.heap.size, 0, none⟩) hbw3).trans hS3.1, (hb4.cell (p := ⟨W.heap.size, 1, none⟩) hbw3).trans hS3.2.1, (hb4.cell (p := ⟨W.heap.size, 2, none⟩) hbw3).trans hS3.2.2.1, (hb4.block _ hw13).trans hS3.2.2.2⟩
          refine hK.out _ _ hS4 (fun hHeld => ?_)
          clear hK K hb4 hgu hS3
          (try simp only [List.getElem_toArray, List.getElem_cons_zero, List.getElem_cons_succ, Act.put, List.setIfInBounds_toArray, List.set_cons_zero, List.set_cons_succ])
          have HB4K := Lib.hid (HBr.out.keptC (KeptC.of_below (Ex := Ex) HB4.out) (fun k h => (HE.out k h).1))
          have HJ4 := Lib.hid (HJ.out _ _ _ HJr.out HB4.out)
          refine wpAnyH_ready (rs := [12]) (by kernel_rfl) (by simp) ?_; refine AllReadyH.cons rfl (fun K hK => ?_) AllReadyH.nil; go_simp
          go_at_call 88
          refine ((callsIn_wide (n := n)).1 (HIH.out (B.nw - (k + 1)) (by have := HF.out; omega) n (g ++ [k]) v' cs' (pre ++ (.slice none 0 0, g) :: xs) w4 (by rw [nxG_snoc]; omega) HGS.out HGU.out HV'.out HB4K.out (Nat.le_trans hlr HB4.out.size) HJ4.out)).mono ?_
          rintro e w5 ⟨rfl, ys, hys, hJ5, hk5⟩
          have hx0 := HX0.out
          have hxw : ¬ Ex w1.heap.size := fun e => by have := (HE.out _ e).2; have := HB1.out.size; omega
          refine hK.out _ _ ⟨hk5.cell hS4.1 hx0, hk5.cell hS4.2.1 hx0, hk5.cell hS4.2.2.1 hx0, hk5.heap hS4.2.2.2 hxw⟩ (fun hHeld => ?_)
          clear hK K hS4 hx0 hxw
          (try simp only [List.getElem_toArray, List.getElem_cons_zero, List.getElem_cons_succ, Act.put, List.setIfInBounds_toArray, List.set_cons_zero, List.set_cons_succ])
          (refine wpAnyH_take (i := 13) (v := ?_) rfl (by kernel_rfl) (by kernel_rfl) (by kernel_rfl) (fun _ _ _ h => h) (Or.inl ⟨by rfl, ?_⟩) (by assumption) ?_; rotate_left; (focus (intro w hSw; (try dsimp only at hSw); go_simp; (try with_reducible rfl))); (try simp only [List.getElem_toArray, List.getElem_cons_zero, List.getElem_cons_succ, Act.put, List.setIfInBounds_toArray, List.set_cons_zero, List.set_cons_succ])); (refine wpAnyH_take (i := 14) (v := ?_) rfl (by kernel_rfl) (by kernel_rfl) (by kernel_rfl) (fun _ _ _ h => h) (Or.inl ⟨by rfl, ?_⟩) (by assumption) ?_; rotate_left; (focus (intro w hSw; (try dsimp only at hSw); go_simp; (try with_reducible rfl))); (try simp only [List.getElem_toArray, List.getElem_cons_zero, List.getElem_cons_succ, Act.put, List.setIfInBounds_toArray, List.set_cons_zero, List.set_cons_succ]))
          refine wpAnyH_done (by kernel_rfl) ?_ _; clear hHeld
          unfold onlyN
          have HK5 := Lib.hid ((HKr.out.trans (KeptC.of_below HB4.out)).trans hk5)
          have HJ5 : Hid (J (pre ++ (.slice none 0 0, g) :: (xs ++ ys)) w5) := by unfold Hid; simpa using hJ5
          have HT5 : Hid ((xs ++ ys).map Prod.snd ++ tailG B (B.nw - (k + 1)) g = tailG B (B.nw - nxG g) g) := by
            unfold Hid
            have h1 := HT.out
            rw [HST.out, if_pos HTA.out] at h1
            rw [List.map_append, hys, ← h1]
            simp
          clear hys hJ5 hk5
          gi_wp2
          go_roundw
          case rel => exact ⟨k + 1, xs ++ ys, by omega, by omega, by go_num, HJ5, HT5, HK5⟩
          case measure => simp [intOf]; omega
      · have HT2 : Hid (xs.map Prod.snd = tailG B f g) := by
          unfold Hid
          have h1 := HT.out
          rw [tailG_end B g hkn, List.append_nil] at h1
          rw [h1, show B.nw - nxG g = f by have := HF.out; omega]
        have hki : ¬ (k : Int) < (B.nw : Int) := by omega
        gi_wp2
        go_ret
        exact ⟨rfl, (.slice none 0 0, g) :: xs, by rw [List.map_cons, HT2.out], HJr.out, HKW.out.trans HKr.out⟩
  · have HG0 := Lib.hid hg0
    have HJ3 : Hid (J (pre ++ (.slice (some ⟨b, 0, none⟩) g.length cap, g) :: []) W3) := hJ3
    have hpos : 0 < g.length := List.length_pos_iff.2 hg0
    have hlast : W3.cell? ⟨b, g.length - 1, none⟩ = some (.int .i64 ((nxG g : Nat) - 1 : Int)) := cell_blk hblk _ (by
      rw [hcur _ (by omega)]
      obtain ⟨m, k, rfl⟩ : ∃ m k, g = m ++ [k] := ⟨_, _, (List.dropLast_concat_getLast hg0).symm⟩
      rw [nxG_snoc]
      simp [List.getD])
    have hpi : (0 : Int) < (g.length : Int) := by omega
    have hgl : g.length ≤ 1000 := by have := HGK.out.len; have := HGK.out.top; omega
    have hnx : nxG g ≤ 1000 := by have := HGK.out.top; omega
    clear hJ3 hg0 hblk hcur
    gi_upto_region 7 with fail

    gi_loopw [11] (fun i wr => ∃ (k : Nat) (xs : List (Value × List Nat)), nxG g ≤ k ∧ k ≤ B.nw ∧ i = .int .i64 k ∧ Hid (J (pre ++ (.slice (some ⟨b, 0, none⟩) g.length cap, g) :: xs) wr) ∧ Hid (xs.map Prod.snd ++ tailG B (B.nw - k) g = tailG B (B.nw - nxG g) g) ∧ Hid (KeptC Ex W3 wr)) (fun i _ => B.nw - (intOf i).toNat)
    case atStart => exact ⟨nxG g, [], Nat.le_refl _, HLE.out, by go_num, HJ3.out, rfl, KeptC.refl _ _⟩
    case round =>
      obtain ⟨k, xs, hk0, hk, rfl, HJr, HT, HKr⟩ := hrel
      have HK0r := Lib.hid (HKr.out.heap HK03.out HX0.out)
      have HK1r := Lib.hid (HKr.out.heap HK13.out HX1.out)
      have HBr := Lib.hid (HB3.out.keptC HKr.out (fun k h => (HE.out k h).1))
      have HUr := Lib.hid (HU3.out.kept HKr.out (fun k h => (HE.out k h).2))
      have q0 := cell_blk HK0r.out 0 rfl
      have q1 := cell_blk HK0r.out 1 rfl
      have q2 := cell_blk HK0r.out 2 rfl
      have hlr : lo ≤ wr.heap.size := Nat.le_trans hl3 HKr.out.1
      by_cases hkn : k < B.nw
      · have hki : (k : Int) < (B.nw : Int) := by omega
        have hgl := HGK.out.len
        have htop := HGK.out.top
        have HA := Lib.hid (callsIn_wide (n := n - 1).2 (add_any N _ B cs g k p wr HBr.out HG.out HV.out hkn (by omega)))
        have HST := Lib.hid (tailG_step B g hkn)
        have hb1w : W.heap.size < wr.heap.size := heap_lt HK0r.out
        cases ha : addOK B g k with
        | false =>
          have HT2 : Hid (xs.map Prod.snd ++ tailG B (B.nw - (k + 1)) g = tailG B (B.nw - nxG g) g) := by unfold Hid; have h1 := HT.out; rw [HST.out, ha] at h1; simpa using h1
          rw [ha] at HA
          gi_wp2_with (first
            | (refine wpIn_ldG rfl _ rfl (W.heap.size + 1) rfl (t := 78) (cs := cs) HK1r.out HV.out.size ?_)
            | (refine ⟨trivial, fun h => (by cases h), ?_⟩; gi_at_call 75; refine HA.out.mono ?_; clear HA; rintro e w1 ⟨⟨cs', rfl, _, hv0⟩, hb1⟩; have HZ := Lib.hid (hv0 rfl); have HB1 := Lib.hid hb1; clear hv0 hb1)
            | (refine wpIn_stG rfl _ _ rfl w1.heap.size cs' rfl rfl (t := 78) (old := zeroG) (World.alloc_heap_new _ _) rfl (by rw [HZ.out]; rfl) (by rw [HZ.out]; exact (GV.zero B).one) ?_; obtain ⟨w2, hw2, hz2, hb2⟩ := alloc_row (W := w1) (old := zeroG) (cs := cs') (t := 78); unfold zeroG at hw2; rw [hw2]; have HB2 := Lib.hid (bel HB1.out hb2); clear hz2 hb2 hw2))
          refine region_wide (S := fun _ => True) (by kernel_rfl) (by kernel_rfl) trivial (fun hHeld => ?_)
          (refine wpAnyH_take (i := 0) (v := ?_) rfl (by kernel_rfl) (by kernel_rfl) (by kernel_rfl) (fun _ _ _ h => h) (Or.inl ⟨by rfl, ?_⟩) (by assumption) ?_; rotate_left; (focus (intro w hSw; (try dsimp only at hSw); go_simp; (try with_reducible rfl))); (try simp only [List.getElem_toArray, List.getElem_cons_zero, List.getElem_cons_succ, Act.put, List.setIfInBounds_toArray, List.set_cons_zero, List.set_cons_succ])); (refine wpAnyH_take (i := 1) (v := ?_) rfl (by kernel_rfl) (by kernel_rfl) (by kernel_rfl) (fun _ _ _ h => h) (Or.inl ⟨by rfl, ?_⟩) (by assumption) ?_; rotate_left; (focus (intro w hSw; (try dsimp only at hSw); go_simp; (try with_reducible rfl))); (try simp only [List.getElem_toArray, List.getElem_cons_zero, List.getElem_cons_succ, Act.put, List.setIfInBounds_toArray, List.set_cons_zero, List.set_cons_succ]))
          (refine wpAnyH_take (i := 2) (v := undef) rfl (by kernel_rfl) (by kernel_rfl) (by kernel_rfl) (fun _ _ _ h => h) (Or.inr ⟨by rfl, rfl⟩) (by assumption) ?_; (try simp only [List.getElem_toArray, List.getElem_cons_zero, List.getElem_cons_succ, Act.put, List.setIfInBounds_toArray, List.set_cons_zero, List.set_cons_succ])); (refine wpAnyH_take (i := 3) (v := undef) rfl (by kernel_rfl) (by kernel_rfl) (by kernel_rfl) (fun _ _ _ h => h) (Or.inr ⟨by rfl, rfl⟩) (by assumption) ?_; (try simp only [List.getElem_toArray, List.getElem_cons_zero, List.getElem_cons_succ, Act.put, List.setIfInBounds_toArray, List.set_cons_zero, List.set_cons_succ])); (refine wpAnyH_take (i := 4) (v := undef) rfl (by kernel_rfl) (by kernel_rfl) (by kernel_rfl) (fun _ _ _ h => h) (Or.inr ⟨by rfl, rfl⟩) (by assumption) ?_; (try simp only [List.getElem_toArray, List.getElem_cons_zero, List.getElem_cons_succ, Act.put, List.setIfInBounds_toArray, List.set_cons_zero, List.set_cons_succ])); (refine wpAnyH_take (i := 5) (v := undef) rfl (by kernel_rfl) (by kernel_rfl) (by kernel_rfl) (fun _ _ _ h => h) (Or.inr ⟨by rfl, rfl⟩) (by assumption) ?_; (try simp only [List.getElem_toArray, List.getElem_cons_zero, List.getElem_cons_succ, Act.put, List.setIfInBounds_toArray, List.set_cons_zero, List.set_cons_succ])); (refine wpAnyH_take (i := 6) (v := undef) rfl (by kernel_rfl) (by kernel_rfl) (by kernel_rfl) (fun _ _ _ h => h) (Or.inr ⟨by rfl, rfl⟩) (by assumption) ?_; (try simp only [List.getElem_toArray, List.getElem_cons_zero, List.getElem_cons_succ, Act.put, List.setIfInBounds_toArray, List.set_cons_zero, List.set_cons_succ])); (refine wpAnyH_take (i := 7) (v := undef) rfl (by kernel_rfl) (by kernel_rfl) (by kernel_rfl) (fun _ _ _ h => h) (Or.inr ⟨by rfl, rfl⟩) (by assumption) ?_; (try simp only [List.getElem_toArray, List.getElem_cons_zero, List.getElem_cons_succ, Act.put, List.setIfInBounds_toArray, List.set_cons_zero, List.set_cons_succ])); (refine wpAnyH_take (i := 8) (v := undef) rfl (by kernel_rfl) (by kernel_rfl) (by kernel_rfl) (fun _ _ _ h => h) (Or.inr ⟨by rfl, rfl⟩) (by assumption) ?_; (try simp only [List.getElem_toArray, List.getElem_cons_zero, List.getElem_cons_succ, Act.put, List.setIfInBounds_toArray, List.set_cons_zero, List.set_cons_succ])); (refine wpAnyH_take (i := 9) (v := undef) rfl (by kernel_rfl) (by kernel_rfl) (by kernel_rfl) (fun _ _ _ h => h) (Or.inr ⟨by rfl, rfl⟩) (by assumption) ?_; (try simp only [List.getElem_toArray, List.getElem_cons_zero, List.getElem_cons_succ, Act.put, List.setIfInBounds_toArray, List.set_cons_zero, List.set_cons_succ])); (refine wpAnyH_take (i := 10) (v := undef) rfl (by kernel_rfl) (by kernel_rfl) (by kernel_rfl) (fun _ _ _ h => h) (Or.inr ⟨by rfl, rfl⟩) (by assumption) ?_; (try simp only [List.getElem_toArray, List.getElem_cons_zero, List.getElem_cons_succ, Act.put, List.setIfInBounds_toArray, List.set_cons_zero, List.set_cons_succ])); (refine wpAnyH_take (i := 11) (v := undef) rfl (by kernel_rfl) (by kernel_rfl) (by kernel_rfl) (fun _ _ _ h => h) (Or.inr ⟨by rfl, rfl⟩) (by assumption) ?_; (try simp only [List.getElem_toArray, List.getElem_cons_zero, List.getElem_cons_succ, Act.put, List.setIfInBounds_toArray, List.set_cons_zero, List.set_cons_succ])); (refine wpAnyH_take (i := 12) (v := undef) rfl (by kernel_rfl) (by kernel_rfl) (by kernel_rfl) (fun _ _ _ h => h) (Or.inr ⟨by rfl, rfl⟩) (by assumption) ?_; (try simp only [List.getElem_toArray, List.getElem_cons_zero, List.getElem_cons_succ, Act.put, List.setIfInBounds_toArray, List.set_cons_zero, List.set_cons_succ])); (refine wpAnyH_take (i := 13) (v := undef) rfl (by kernel_rfl) (by kernel_rfl) (by kernel_rfl) (fun _ _ _ h => h) (Or.inr ⟨by rfl, rfl⟩) (by assumption) ?_; (try simp only [List.getElem_toArray, List.getElem_cons_zero, List.getElem_cons_succ, Act.put, List.setIfInBounds_toArray, List.set_cons_zero, List.set_cons_succ]))
          (refine wpAnyH_take (i := 14) (v := ?_) rfl (by kernel_rfl) (by kernel_rfl) (by kernel_rfl) (fun _ _ _ h => h) (Or.inl ⟨by rfl, ?_⟩) (by assumption) ?_; rotate_left; (focus (intro w hSw; (try dsimp only at hSw); go_simp; (try with_reducible rfl))); (try simp only [List.getElem_toArray, List.getElem_cons_zero, List.getElem_cons_succ, Act.put, List.setIfInBounds_toArray, List.set_cons_zero, List.set_cons_succ]))
          refine wpAnyH_done (by kernel_rfl) ?_ _; clear hHeld
          unfold onlyN
          have HB2d := Lib.hid HB2.out.drew
          have HKd := Lib.hid (HKr.out.trans (KeptC.of_below HB2d.out))
          have HJd := Lib.hid (HJ.out _ _ _ HJr.out HB2d.out)
          gi_wp2
          go_roundw
          case rel => exact ⟨k + 1, xs, by omega, by omega, by go_num, HJd, HT2, HKd⟩
          case measure => simp [intOf]; omega
        | true =>
          rw [ha] at HA
          have HGS := Lib.hid (HGK.out.snoc hk0 hkn ha)
          have HTA := Lib.hid ha
          clear ha
          gi_wp2_with (first
            | (refine wpIn_ldG rfl _ rfl (W.heap.size + 1) rfl (t := 78) (cs := cs) HK1r.out HV.out.size ?_)
            | (refine ⟨trivial, fun h => (by cases h), ?_⟩; gi_at_call 75; refine HA.out.mono ?_; clear HA; rintro e w1 ⟨⟨cs', rfl, hv1, _⟩, hb1⟩; have HV' := Lib.hid (hv1 rfl); have HB1 := Lib.hid hb1; clear hv1 hb1)
            | (refine wpIn_stG rfl _ _ rfl w1.heap.size cs' rfl rfl (t := 78) (old := zeroG) (World.alloc_heap_new _ _) rfl HV'.out.size HV'.out.one ?_; obtain ⟨w2, hw2, hz2, hb2⟩ := alloc_row (W := w1) (old := zeroG) (cs := cs') (t := 78); unfold zeroG at hw2; rw [hw2]; have HC2 := Lib.hid hz2; have HB2 := Lib.hid (bel HB1.out hb2); clear hz2 hb2 hw2))
          have y0 := cell_blk ((HB2.out.block _ hb1w).trans HK0r.out) 0 rfl
          have y1 := cell_blk ((HB2.out.block _ hb1w).trans HK0r.out) 1 rfl
          have y2 := cell_blk ((HB2.out.block _ hb1w).trans HK0r.out) 2 rfl
          have hbw2 : W.heap.size < w2.heap.size := Nat.lt_of_lt_of_le hb1w HB2.out.size
          have HU2 := Lib.hid (HUr.out.below HB2.out)
          clear q0 q1 q2
          refine region_wide (S := fun w' => w'.cell? ⟨W.heap.size, 0, none⟩ = some (.slice a1 B.ns z1) ∧ w'.cell? ⟨W.heap.size, 1, none⟩ = some (.slice a2 B.ng z2) ∧ w'.cell? ⟨W.heap.size, 2, none⟩ = some (.slice a3 B.nw z3) ∧ w'.heap[w1.heap.size]? = some (.cells cs' 78)) (by kernel_rfl) (by kernel_rfl) ⟨y0, y1, y2, HC2.out⟩ (fun hHeld => ?_)
          (refine wpAnyH_take (i := 0) (v := ?_) rfl (by kernel_rfl) (by kernel_rfl) (by kernel_rfl) (fun _ _ _ h => h) (Or.inl ⟨by rfl, ?_⟩) (by assumption) ?_; rotate_left; (focus (intro w hSw; (try dsimp only at hSw); go_simp; (try with_reducible rfl))); (try simp only [List.getElem_toArray, List.getElem_cons_zero, List.getElem_cons_succ, Act.put, List.setIfInBounds_toArray, List.set_cons_zero, List.set_cons_succ])); (refine wpAnyH_take (i := 1) (v := ?_) rfl (by kernel_rfl) (by kernel_rfl) (by kernel_rfl) (fun _ _ _ h => h) (Or.inl ⟨by rfl, ?_⟩) (by assumption) ?_; rotate_left; (focus (intro w hSw; (try dsimp only at hSw); go_simp; (try with_reducible rfl))); (try simp only [List.getElem_toArray, List.getElem_cons_zero, List.getElem_cons_succ, Act.put, List.setIfInBounds_toArray, List.set_cons_zero, List.set_cons_succ])); (refine wpAnyH_take (i := 2) (v := ?_) rfl (by kernel_rfl) (by kernel_rfl) (by kernel_rfl) (fun _ _ _ h => h) (Or.inl ⟨by rfl, ?_⟩) (by assumption) ?_; rotate_left; (focus (intro w hSw; (try dsimp only at hSw); go_simp; (try with_reducible rfl))); (try simp only [List.getElem_toArray, List.getElem_cons_zero, List.getElem_cons_succ, Act.put, List.setIfInBounds_toArray, List.set_cons_zero, List.set_cons_succ])); (refine wpAnyH_take (i := 3) (v := ?_) rfl (by kernel_rfl) (by kernel_rfl) (by kernel_rfl) (fun _ _ _ h => h) (Or.inl ⟨by rfl, ?_⟩) (by assumption) ?_; rotate_left; (focus (intro w hSw; (try dsimp only at hSw); go_simp; (try with_reducible rfl))); (try simp only [List.getElem_toArray, List.getElem_cons_zero, List.getElem_cons_succ, Act.put, List.setIfInBounds_toArray, List.set_cons_zero, List.set_cons_succ])); (refine wpAnyH_take (i := 4) (v := ?_) rfl (by kernel_rfl) (by kernel_rfl) (by kernel_rfl) (fun _ _ _ h => h) (Or.inl ⟨by rfl, ?_⟩) (by assumption) ?_; rotate_left; (focus (intro w hSw; (try dsimp only at hSw); go_simp; (try with_reducible rfl))); (try simp only [List.getElem_toArray, List.getElem_cons_zero, List.getElem_cons_succ, Act.put, List.setIfInBounds_toArray, List.set_cons_zero, List.set_cons_succ])); (refine wpAnyH_take (i := 5) (v := ?_) rfl (by kernel_rfl) (by kernel_rfl) (by kernel_rfl) (fun _ _ _ h => h) (Or.inl ⟨by rfl, ?_⟩) (by assumption) ?_; rotate_left; (focus (intro w hSw; (try dsimp only at hSw); go_simp; (try with_reducible rfl))); (try simp only [List.getElem_toArray, List.getElem_cons_zero, List.getElem_cons_succ, Act.put, List.setIfInBounds_toArray, List.set_cons_zero, List.set_cons_succ])); (refine wpAnyH_take (i := 6) (v := ?_) rfl (by kernel_rfl) (by kernel_rfl) (by kernel_rfl) (fun _ _ _ h => h) (Or.inl ⟨by rfl, ?_⟩) (by assumption) ?_; rotate_left; (focus (intro w hSw; (try dsimp only at hSw); go_simp; (try with_reducible rfl))); (try simp only [List.getElem_toArray, List.getElem_cons_zero, List.getElem_cons_succ, Act.put, List.setIfInBounds_toArray, List.set_cons_zero, List.set_cons_succ])); (refine wpAnyH_take (i := 7) (v := ?_) rfl (by kernel_rfl) (by kernel_rfl) (by kernel_rfl) (fun _ _ _ h => h) (Or.inl ⟨by rfl, ?_⟩) (by assumption) ?_; rotate_left; (focus (intro w hSw; (try dsimp only at hSw); go_simp; (try with_reducible rfl))); (try simp only [List.getElem_toArray, List.getElem_cons_zero, List.getElem_cons_succ, Act.put, List.setIfInBounds_toArray, List.set_cons_zero, List.set_cons_succ]))
          (refine wpAnyH_take (i := 10) (v := .agg cs') rfl (by kernel_rfl) (by kernel_rfl) (by kernel_rfl) (fun _ _ _ h => h) (ldY (by rfl) _ rfl w1.heap.size rfl (t := 78) (fun _ h => h.2.2.2) HV'.out.size) (by assumption) ?_; (try simp only [List.getElem_toArray, List.getElem_cons_zero, List.getElem_cons_succ, Act.put, List.setIfInBounds_toArray, List.set_cons_zero, List.set_cons_succ]))
          (refine wpAnyH_take (i := 11) (v := ?_) rfl (by kernel_rfl) (by kernel_rfl) (by kernel_rfl) (fun _ _ _ h => h) (Or.inl ⟨by rfl, ?_⟩) (by assumption) ?_; rotate_left; (focus (intro w hSw; (try dsimp only at hSw); go_simp; (try with_reducible rfl))); (try simp only [List.getElem_toArray, List.getElem_cons_zero, List.getElem_cons_succ, Act.put, List.setIfInBounds_toArray, List.set_cons_zero, List.set_cons_succ]))
          refine wpAnyH_ready (rs := [8]) (by kernel_rfl) (by simp) ?_; refine AllReadyH.cons rfl (fun K hK => ?_) AllReadyH.nil; go_simp
          obtain ⟨w3, hw3, hb3, hc3⟩ : ∃ w3, (w2.alloc (.cells #[.int .i64 k] 3)).drew = w3 ∧ Below w2.heap.size w2 w3 ∧ w3.heap[w2.heap.size]? = some (.cells #[.int .i64 k] 3) := ⟨_, rfl, (below_alloc (Nat.le_refl _) _).drew, World.alloc_heap_new _ _⟩
          rw [hw3]
          have HB3 := Lib.hid (bel HB2.out hb3)
          have HC3 := Lib.hid hc3
          have HU3' := Lib.hid (HU2.out.below hb3)
          have hw12 : w1.heap.size < w2.heap.size := heap_lt HC2.out
          refine hK.out _ _ ⟨(hb3.cell (p := ⟨W.heap.size, 0, none⟩) hbw2).trans y0, (hb3.cell (p := ⟨W.heap.size, 1, none⟩) hbw2).trans y1, (hb3.cell (p := ⟨W.heap.size, 2, none⟩) hbw2).trans y2, (hb3.block _ hw12).trans HC2.out⟩ (fun hHeld => ?_)
          clear hK K hw3 hb3 hc3 y0 y1 y2
          (try simp only [List.getElem_toArray, List.getElem_cons_zero, List.getElem_cons_succ, Act.put, List.setIfInBounds_toArray, List.set_cons_zero, List.set_cons_succ])
          have hS3 := hHeld
          refine wpAnyH_ready (rs := [9]) (by kernel_rfl) (by simp) ?_; refine AllReadyH.cons rfl (fun K hK => ?_) AllReadyH.nil; rw [if_pos (by rfl)]
          refine wp_app w3 (.tmp 52) (.tmp 54) rfl g k lo (Nat.le_trans hlr HB3.out.size) (by omega) _ rfl (.inr ⟨b, rfl, fun i hi => by obtain ⟨h0, _⟩ | ⟨_, b2, cap2, cur2, e2, _, _, h4, h5⟩ := HU3'.out; exact absurd h0 HG0.out; cases e2; exact cell_blk h4 i (h5 i hi)⟩) w2.heap.size rfl (cell_blk HC3.out 0 rfl) ?_
          intro v' w4 hgu hb4
          have HB4 := Lib.hid (bel HB3.out hb4)
          have HGU := Lib.hid hgu
          have hbw3 : W.heap.size < w3.heap.size := Nat.lt_of_lt_of_le hb1w HB3.out.size
          have hw13 : w1.heap.size < w3.heap.size := heap_lt hS3.2.2.2
          have hS4 : w4.cell? ⟨W.heap.size, 0, none⟩ = some (.slice a1 B.ns z1) ∧ w4.cell? ⟨W.heap.size, 1, none⟩ = some (.slice a2 B.ng z2) ∧ w4.cell? ⟨W.heap.size, 2, none⟩ = some (.slice a3 B.nw z3) ∧ w4.heap[w1.heap.size]? = some (.cells cs' 78) :=
            ⟨(hb4.cell (p := ⟨W.heap.size, 0, none⟩) hbw3).trans hS3.1, (hb4.cell (p := ⟨W.heap.size, 1, none⟩) hbw3).trans hS3.2.1, (hb4.cell (p := ⟨W.heap.size, 2, none⟩) hbw3).trans hS3.2.2.1, (hb4.block _ hw13).trans hS3.2.2.2⟩
          refine hK.out _ _ hS4 (fun hHeld => ?_)
          clear hK K hb4 hgu hS3
          (try simp only [List.getElem_toArray, List.getElem_cons_zero, List.getElem_cons_succ, Act.put, List.setIfInBounds_toArray, List.set_cons_zero, List.set_cons_succ])
          have HB4K := Lib.hid (HBr.out.keptC (KeptC.of_below (Ex := Ex) HB4.out) (fun k h => (HE.out k h).1))
          have HJ4 := Lib.hid (HJ.out _ _ _ HJr.out HB4.out)
          refine wpAnyH_ready (rs := [12]) (by kernel_rfl) (by simp) ?_; refine AllReadyH.cons rfl (fun K hK => ?_) AllReadyH.nil; go_simp
          go_at_call 88
          refine ((callsIn_wide (n := n)).1 (HIH.out (B.nw - (k + 1)) (by have := HF.out; omega) n (g ++ [k]) v' cs' (pre ++ (.slice (some ⟨b, 0, none⟩) g.length cap, g) :: xs) w4 (by rw [nxG_snoc]; omega) HGS.out HGU.out HV'.out HB4K.out (Nat.le_trans hlr HB4.out.size) HJ4.out)).mono ?_
          rintro e w5 ⟨rfl, ys, hys, hJ5, hk5⟩
          have hx0 := HX0.out
          have hxw : ¬ Ex w1.heap.size := fun e => by have := (HE.out _ e).2; have := HB1.out.size; omega
          refine hK.out _ _ ⟨hk5.cell hS4.1 hx0, hk5.cell hS4.2.1 hx0, hk5.cell hS4.2.2.1 hx0, hk5.heap hS4.2.2.2 hxw⟩ (fun hHeld => ?_)
          clear hK K hS4 hx0 hxw
          (try simp only [List.getElem_toArray, List.getElem_cons_zero, List.getElem_cons_succ, Act.put, List.setIfInBounds_toArray, List.set_cons_zero, List.set_cons_succ])
          (refine wpAnyH_take (i := 13) (v := ?_) rfl (by kernel_rfl) (by kernel_rfl) (by kernel_rfl) (fun _ _ _ h => h) (Or.inl ⟨by rfl, ?_⟩) (by assumption) ?_; rotate_left; (focus (intro w hSw; (try dsimp only at hSw); go_simp; (try with_reducible rfl))); (try simp only [List.getElem_toArray, List.getElem_cons_zero, List.getElem_cons_succ, Act.put, List.setIfInBounds_toArray, List.set_cons_zero, List.set_cons_succ])); (refine wpAnyH_take (i := 14) (v := ?_) rfl (by kernel_rfl) (by kernel_rfl) (by kernel_rfl) (fun _ _ _ h => h) (Or.inl ⟨by rfl, ?_⟩) (by assumption) ?_; rotate_left; (focus (intro w hSw; (try dsimp only at hSw); go_simp; (try with_reducible rfl))); (try simp only [List.getElem_toArray, List.getElem_cons_zero, List.getElem_cons_succ, Act.put, List.setIfInBounds_toArray, List.set_cons_zero, List.set_cons_succ]))
          refine wpAnyH_done (by kernel_rfl) ?_ _; clear hHeld
          unfold onlyN
          have HK5 := Lib.hid ((HKr.out.trans (KeptC.of_below HB4.out)).trans hk5)
          have HJ5 : Hid (J (pre ++ (.slice (some ⟨b, 0, none⟩) g.length cap, g) :: (xs ++ ys)) w5) := by unfold Hid; simpa using hJ5
          have HT5 : Hid ((xs ++ ys).map Prod.snd ++ tailG B (B.nw - (k + 1)) g = tailG B (B.nw - nxG g) g) := by
            unfold Hid
            have h1 := HT.out
            rw [HST.out, if_pos HTA.out] at h1
            rw [List.map_append, hys, ← h1]
            simp
          clear hys hJ5 hk5
          gi_wp2
          go_roundw
          case rel => exact ⟨k + 1, xs ++ ys, by omega, by omega, by go_num, HJ5, HT5, HK5⟩
          case measure => simp [intOf]; omega
      · have HT2 : Hid (xs.map Prod.snd = tailG B f g) := by
          unfold Hid
          have h1 := HT.out
          rw [tailG_end B g hkn, List.append_nil] at h1
          rw [h1, show B.nw - nxG g = f by have := HF.out; omega]
        have hki : ¬ (k : Int) < (B.nw : Int) := by omega
        gi_wp2
        go_ret
        exact ⟨rfl, (.slice (some ⟨b, 0, none⟩) g.length cap, g) :: xs, by rw [List.map_cons, HT2.out], HJr.out, HKW.out.trans HKr.out⟩

end Go.Proofs.Ytnnngbnimmcjiaa
