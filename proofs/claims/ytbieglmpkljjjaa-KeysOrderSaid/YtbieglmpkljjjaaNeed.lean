/-
  Need: need, tellAll of package keys.
-/
import Derived.Test.YtbieglmpkljjjaaBest
namespace Go.Proofs.Ytbieglmpkljjjaa
open Go.RowKit Go.Shelf

attribute [local go_sem] Oper.semAt_some

/-- the marks that alone tell some of the pairs -/
def needF (l : List Nat) : Nat := l.foldl (fun a d => if many d = 1 then a ||| d else a) 0
theorem needF_snoc (l : List Nat) (d : Nat) : needF (l ++ [d]) = if many d = 1 then needF l ||| d else needF l := by simp [needF]
theorem needF_lt' : ∀ (l : List Nat) (a : Nat), a < 256 → (∀ d, d ∈ l → d < 256) → l.foldl (fun a d => if many d = 1 then a ||| d else a) a < 256 := by
  intro l
  induction l with
  | nil => intro a h _; exact h
  | cons d l ih =>
    intro a ha h
    refine ih _ ?_ fun x hx => h x (by simp [hx])
    show (if many d = 1 then a ||| d else a) < 256
    split
    · exact Nat.or_lt_two_pow (n := 8) ha (h d (by simp))
    · exact ha
theorem needF_lt {l : List Nat} (h : ∀ d, d ∈ l → d < 256) : needF l < 256 := needF_lt' l 0 (by omega) h
theorem or_bits {s t : Nat} (hs : s < 256) (ht : t < 256) : bits BinOp.or IntKind.u64 (s : Int) (t : Int) = (s ||| t : Nat) := by
  have h : s ||| t < 256 := Nat.or_lt_two_pow (n := 8) hs ht
  have e : (2 : Nat) ^ IntKind.u64.bits = 18446744073709551616 := by decide
  unfold bits
  simp only [BitVec.ofInt_natCast, BitVec.toNat_or, BitVec.toNat_ofNat, e]
  rw [Nat.mod_eq_of_lt (by omega), Nat.mod_eq_of_lt (by omega)]
  exact IntWalk.u64_in _ ⟨by omega, by omega⟩
theorem and_bits {s t : Nat} (hs : s < 256) (ht : t < 256) : bits BinOp.and IntKind.u64 (s : Int) (t : Int) = (s &&& t : Nat) := by
  have h : s &&& t ≤ s := Nat.and_le_left
  have e : (2 : Nat) ^ IntKind.u64.bits = 18446744073709551616 := by decide
  unfold bits
  simp only [BitVec.ofInt_natCast, BitVec.toNat_and, BitVec.toNat_ofNat, e]
  rw [Nat.mod_eq_of_lt (by omega), Nat.mod_eq_of_lt (by omega)]
  exact IntWalk.u64_in _ ⟨by omega, by omega⟩

set_option maxRecDepth 100000 in
set_option maxHeartbeats 4000000 in
theorem need_any (N : Nat) (v : Value) (B : KB) (w : World) (h : BookAt N w v B) (hG : GoodB B) :
    Calls Try.prog 90 #[v] w fun e w' => e = .returned (.int .u64 (needF (pairsL B B.ns) : Nat)) ∧ Below w.heap.size w w' := by
  obtain ⟨hN, a1, z1, a2, z2, a3, z3, rfl, _⟩ := id h
  have HB := Lib.hid h
  have HG := Lib.hid hG
  have hnv5 := hG.nv
  clear h hG
  refine (callsIn_wide (n := 3)).1 ?_
  refine callsIn_of_wp_marks Try.func90 rfl trivial ?_ rfl
  simp only [Try.ntmps90, List.size_toArray, List.length_cons, List.length_nil, Nat.reduceAdd, Nat.reduceSub, Array.replicate_succ, Array.replicate_zero, List.push_toArray, List.append_toArray, List.nil_append, List.cons_append]
  obtain ⟨w2, hw2, HB2, hsz, k0, k1, k2⟩ := allocs3 w (.cells #[.slice a1 B.nv z1, .slice a2 B.ns z2, .slice a3 B.D.n z3] 26) (.cells #[.int .u64 0] 104) (.cells #[.slice a1 B.nv z1, .slice a2 B.ns z2, .slice a3 B.D.n z3] 26)
  have HBK := Lib.hid (HB.out.go HB2.out)
  gi_wp2_with (refine ⟨trivial, ?_⟩; gi_at_call 118; refine (callsIn_wide.2 (pairs_any _ _ _ _)).mono ?_; rintro e w' ⟨rfl, hw'⟩; rw [hw']; clear hw' w')
  clear hw2
  have hseq := pairs1_seq 2 (by omega) (w.heap.size + 1 + 1) N B (fun k => k < w2.heap.size ∧ k ≠ w.heap.size + 1) (Kept fun k => k < w2.heap.size ∧ k ≠ w.heap.size + 1) (fun _ _ h => h) w2 a1 a2 a3 z1 z2 z3 k2 HBK.out
    (fun k hk => ⟨by have := HBK.out.1; omega, by omega⟩) ⟨by omega, by omega⟩ (fun k hk => hk.1) HG.out
  have HSEQ := Lib.hid hseq
  have K1 := Lib.hid k1
  clear hseq k0 k1 k2
  refine rangeL (w := w2) rfl (by omega) (gf := 143) (lb := #[.pointer (some ⟨w.heap.size + 1 + 1, 0, none⟩)]) rfl trivial (enters_of Try.func143 (by kernel_rfl) rfl) HSEQ.out
    (fun h k => Kept.trans h k) (fun W l o o' hl _ _ k hk => World.putObj_heap_other (by omega)) (Below.refl _ _) (fun _ => rfl) new_cells
    (fun pre W => BoxI w2 (w.heap.size + 1) (w.heap.size + 1) 104 (fun pre : List Nat => #[.int .u64 (needF pre : Nat)]) pre W ∧ needF pre < 256) (fun _ _ _ => False)
    (fun s A l o o' h hl hA ho => ⟨BoxI.rec' (by omega) (by omega) s A l o o' h.1 hl hA ho, h.2⟩) (fun _ _ _ _ _ _ h _ _ _ => h) (fun _ _ _ _ _ h _ _ _ => h)
    (fun W s A C hW hs hk => ⟨BoxI.new hs.1 (by have := hs.1.size; omega) hk, hs.2⟩) (fun _ _ _ _ _ _ h _ => h) (fun s A o hs => ⟨BoxI.new hs.1 (by have := hs.1.size; omega) (World.grownBy_alloc _ _ _), hs.2⟩) ⟨⟨K1.out, Below.refl _ _⟩, by decide⟩ (fun W => Kept.refl _ W)
    (fun d => { tmps := #[.agg #[.slice a1 B.nv z1, .slice a2 B.ns z2, .slice a3 B.D.n z3], .pointer (some ⟨w.heap.size, 0, none⟩), .int .u64 0, .pointer (some ⟨w.heap.size + 1, 0, none⟩), .int .u64 (d : Nat), .agg #[.slice a1 B.nv z1, .slice a2 B.ns z2, .slice a3 B.D.n z3], .func (.func 143) #[] #[.pointer (some ⟨w.heap.size + 1 + 1, 0, none⟩)], .int .u64 (d : Nat), undef, undef, undef, undef, undef, undef, undef], defers := [] }) ?assign ?body ?done ?stop
  case assign =>
    intro l x W K hK
    gi_wp2
    simpa using hK
  case body =>
    intro l pre d W hl hrec hs9 hd _
    obtain ⟨hs, hp256⟩ := hs9
    have HP := Lib.hid hp256
    have hd256 : d < 256 := pairsL_lt hnv5 hd
    have HD := Lib.hid hd256
    clear hp256 hd256
    have hc := hs.cell 0 rfl
    have hf := hs.free 0
    have HS := Lib.hid hs
    have HMD := Lib.hid (setMany_any d (pairsL_lt hnv5 hd) W)
    have HN := Lib.hid (needF_snoc pre d)
    have HOR : Hid (∀ (hp : needF pre < 256), bits BinOp.or IntKind.u64 (needF pre : Nat) (d : Nat) = (needF pre ||| d : Nat)) := fun hp => or_bits hp (pairsL_lt hnv5 hd)
    clear hs hd
    by_cases hm : many d = 1
    · have hme : ((many d : Int) == 1) = true := by rw [hm]; rfl
      have HM := Lib.hid hm
      clear hm
      gi_wp2_with (refine ⟨trivial, ?_⟩; gi_at_call 111; refine (CallsIn.inRound l (callsIn_wide.2 HMD.out)).mono ?_; rintro e w' ⟨rfl, hw3⟩; rw [hw3]; clear hw3 w')
      refine ⟨(KeepsOthers.setCell _ _ _).from _, fun j hj => Below.heap_setCell _ _ _ _ hj.2, HS.out.store (Nat.le_refl _) 0 _ ?_, ?_⟩
      · rw [HOR.out HP.out]
        show #[Value.int .u64 ((needF pre ||| d : Nat) : Int)] = #[Value.int .u64 ((needF (pre ++ [d]) : Nat) : Int)]
        rw [HN.out, if_pos HM.out]
      · rw [HN.out, if_pos HM.out]
        exact Nat.or_lt_two_pow (n := 8) HP.out HD.out
    · have hme : ((many d : Int) == 1) = false := by rw [beq_eq_false_iff_ne]; intro e; exact hm (by omega)
      have HM := Lib.hid hm
      clear hm
      gi_wp2_with (refine ⟨trivial, ?_⟩; gi_at_call 111; refine (CallsIn.inRound l (callsIn_wide.2 HMD.out)).mono ?_; rintro e w' ⟨rfl, hw3⟩; rw [hw3]; clear hw3 w')
      refine ⟨KeepsFrom.refl _ _, Kept.refl _ _, ?_⟩
      have e : needF (pre ++ [d]) = needF pre := by rw [HN.out, if_neg HM.out]
      exact ⟨⟨by show W.heap[_]? = some (Obj.cells #[Value.int .u64 ((needF (pre ++ [d]) : Nat) : Int)] 104); rw [e]; exact HS.out.1, HS.out.2⟩, by rw [e]; exact HP.out⟩
  case done =>
    rintro D ys W hD rfl ⟨hs, _⟩ hK
    have hc := hs.cell 0 rfl
    gi_wp2
    refine ⟨by simp, .inl ⟨_, _, rfl, run_takeDeferred hK, ?_⟩⟩
    exact ⟨_, results_tmp rfl _ _ _, rfl, (HB2.out.trans (hs.2.mono (by omega))).trans (belowK_b (w := w) (Nat.le_refl _) W D _ _ (by omega) hK rfl rfl)⟩
  case stop =>
    rintro D c pre W hD _ h _
    exact h.elim

/-- marks that tell each of the pairs -/
def tellL (l : List Nat) (m : Nat) : Bool := l.all fun d => decide (d &&& m ≠ 0)
theorem tell_result (tmps : Array Value) (W : World) (rc : Nat) (x : Bool) (ht : tmps[4]? = some (.pointer (some ⟨rc, 0, none⟩))) (hc : W.cell? ⟨rc, 0, none⟩ = some (.bool x)) : (results Try.f124 tmps).run Try.prog W = .ok (.bool x) W := by
  simp [results, Try.results124, go_sem, ht, hc]

set_option maxRecDepth 100000 in
set_option maxHeartbeats 4000000 in
theorem tellAll_any (N : Nat) (v : Value) (B : KB) (m : Nat) (w : World) (h : BookAt N w v B) (hG : GoodB B) (hm : m < 256) :
    Calls Try.prog 124 #[v, .int .u64 (m : Nat)] w fun e w' => e = .returned (.bool (tellL (pairsL B B.ns) m)) ∧ Below w.heap.size w w' := by
  obtain ⟨hN, a1, z1, a2, z2, a3, z3, rfl, _⟩ := id h
  have HB := Lib.hid h
  have HG := Lib.hid hG
  have hnv5 := hG.nv
  clear h hG
  refine (callsIn_wide (n := 3)).1 ?_
  refine callsIn_of_wp_marks Try.func124 rfl trivial ?_ rfl
  simp only [Try.ntmps124, List.size_toArray, List.length_cons, List.length_nil, Nat.reduceAdd, Nat.reduceSub, Array.replicate_succ, Array.replicate_zero, List.push_toArray, List.append_toArray, List.nil_append, List.cons_append]
  obtain ⟨w2, hw2, HB2, hsz, k0, k1, k2, k3⟩ := allocs4 w (.cells #[.slice a1 B.nv z1, .slice a2 B.ns z2, .slice a3 B.D.n z3] 26) (.cells #[.int .u64 (m : Nat)] 104) (.cells #[.bool false] 4) (.cells #[.slice a1 B.nv z1, .slice a2 B.ns z2, .slice a3 B.D.n z3] 26)
  have HBK := Lib.hid (HB.out.go HB2.out)
  gi_wp2_with (refine ⟨trivial, ?_⟩; gi_at_call 118; refine (callsIn_wide.2 (pairs_any _ _ _ _)).mono ?_; rintro e w' ⟨rfl, hw'⟩; rw [hw']; clear hw' w')
  clear hw2
  have hseq := pairs1_seq 2 (by omega) (w.heap.size + 1 + 1 + 1) N B (fun k => k < w2.heap.size ∧ k ≠ w.heap.size + 1 + 1) (Kept fun k => k < w2.heap.size ∧ k ≠ w.heap.size + 1 + 1) (fun _ _ h => h) w2 a1 a2 a3 z1 z2 z3 k3 HBK.out
    (fun k hk => ⟨by have := HBK.out.1; omega, by have := HB.out.1; omega⟩) ⟨by omega, by omega⟩ (fun k hk => hk.1) HG.out
  have HSEQ := Lib.hid hseq
  have K1 := Lib.hid k1
  have K2 := Lib.hid k2
  clear hseq k0 k1 k2 k3
  refine rangeL (w := w2) rfl (by omega) (gf := 143) (lb := #[.pointer (some ⟨w.heap.size + 1 + 1 + 1, 0, none⟩)]) rfl trivial (enters_of Try.func143 (by kernel_rfl) rfl) HSEQ.out
    (fun h k => Kept.trans h k) (fun W l o o' hl _ _ k hk => World.putObj_heap_other (by omega)) (Below.refl _ _) (fun _ => rfl) new_cells
    (fun pre W => BoxI w2 (w.heap.size + 1 + 1) (w.heap.size + 1 + 1) 4 (fun _ : List Nat => #[.bool false]) pre W ∧ tellL pre m = true)
    (fun c pre W => c = .ret ∧ BoxI w2 (w.heap.size + 1 + 1) (w.heap.size + 1 + 1) 4 (fun _ : List Nat => #[.bool false]) pre W ∧ tellL (pairsL B B.ns) m = false)
    (fun s A l o o' h hl hA ho => ⟨BoxI.rec' (by omega) (by omega) s A l o o' h.1 hl hA ho, h.2⟩) (fun c s A l o o' h hl hA ho => ⟨h.1, BoxI.rec' (by omega) (by omega) s A l o o' h.2.1 hl hA ho, h.2.2⟩) (fun _ _ _ _ _ h _ _ _ => h)
    (fun W s A C hW hs hk => ⟨BoxI.new hs.1 (by have := hs.1.size; omega) hk, hs.2⟩) (fun W c s A C hW hs hk => ⟨hs.1, BoxI.new hs.2.1 (by have := hs.2.1.size; omega) hk, hs.2.2⟩) (fun s A o hs => ⟨BoxI.new hs.1 (by have := hs.1.size; omega) (World.grownBy_alloc _ _ _), hs.2⟩) ⟨⟨K2.out, Below.refl _ _⟩, rfl⟩ (fun W => Kept.refl _ W)
    (fun d => { tmps := #[.agg #[.slice a1 B.nv z1, .slice a2 B.ns z2, .slice a3 B.D.n z3], .int .u64 (m : Nat), .pointer (some ⟨w.heap.size, 0, none⟩), .pointer (some ⟨w.heap.size + 1, 0, none⟩), .pointer (some ⟨w.heap.size + 1 + 1, 0, none⟩), .int .u64 (d : Nat), .agg #[.slice a1 B.nv z1, .slice a2 B.ns z2, .slice a3 B.D.n z3], .func (.func 143) #[] #[.pointer (some ⟨w.heap.size + 1 + 1 + 1, 0, none⟩)], .int .u64 (d : Nat), undef, undef, undef, undef], defers := [] }) ?assign ?body ?done ?stop
  case assign =>
    intro l x W K hK
    gi_wp2
    simpa using hK
  case body =>
    intro l pre d W hl hrec ⟨hbx, hpre⟩ hd _
    have hc := hbx.cell 0 rfl
    have hf := hbx.free 0
    have cm := (hbx.2.cell (p := ⟨w.heap.size + 1, 0, none⟩) (show w.heap.size + 1 < w.heap.size + 1 + 1 by omega)).trans (cell_blk K1.out 0 rfl)
    have HBX := Lib.hid hbx
    have HPRE := Lib.hid hpre
    have hab := and_bits (pairsL_lt hnv5 hd) hm
    have HDM := Lib.hid hd
    clear hbx hpre hd
    by_cases hz : d &&& m = 0
    · have hze : (((d &&& m : Nat) : Int) == 0) = true := by rw [hz]; rfl
      have HD : Hid (tellL (pairsL B B.ns) m = false) := by
        unfold Hid tellL
        rw [List.all_eq_false]
        exact ⟨d, HDM.out, by simp [hz]⟩
      clear hz
      gi_wp2
      refine ⟨(KeepsOthers.setCell _ _ _).from _, rfl, ⟨?_, HBX.out.2.trans ((Below.refl _ _).setCell (p := ⟨w.heap.size + 1 + 1, 0, none⟩) (Nat.le_refl _) _)⟩, HD.out⟩
      show (W.heap.modify (w.heap.size + 1 + 1) _)[w.heap.size + 1 + 1]? = _
      rw [Array.getElem?_modify]
      simp [HBX.out.1]
    · have hze : (((d &&& m : Nat) : Int) == 0) = false := by rw [beq_eq_false_iff_ne]; intro e; exact hz (by omega)
      have HZ := Lib.hid hz
      clear hz
      gi_wp2
      refine ⟨KeepsFrom.refl _ _, Kept.refl _ _, ⟨HBX.out.1, HBX.out.2⟩, ?_⟩
      unfold tellL
      rw [List.all_append]
      have h1 := HPRE.out
      unfold tellL at h1
      rw [h1]
      simp [HZ.out]
  case done =>
    rintro D ys W hD rfl ⟨hs, hall⟩ hK
    have hc := hs.cell 0 rfl
    have hf := hs.free 0
    have HD := Lib.hid hall
    gi_wp2
    have hrc : w.heap.size + 1 + 1 < w2.heap.size := by omega
    have hK' : (W.setCell ⟨w.heap.size + 1 + 1, 0, none⟩ (.bool true)).heap[D]? = some (.deferred (some [])) := (Below.heap_setCell _ _ _ _ (by show D ≠ w.heap.size + 1 + 1; omega)).trans hK
    refine ⟨by simp, .inl ⟨_, _, rfl, run_takeDeferred hK', ?_⟩⟩
    have hcell := (World.cell?_of_block (a := ⟨w.heap.size + 1 + 1, 0, none⟩) (World.putObj_heap_other (w := W.setCell ⟨w.heap.size + 1 + 1, 0, none⟩ (.bool true)) (o := .deferred none) (show w.heap.size + 1 + 1 ≠ D by omega))).trans (World.cell?_setCell_same _ _ _ hc)
    exact ⟨_, tell_result _ _ (w.heap.size + 1 + 1) true rfl hcell, rfl,
      ((HB2.out.trans (hs.2.mono (by omega))).trans ((Below.refl w.heap.size W).setCell (p := ⟨w.heap.size + 1 + 1, 0, none⟩) (by show w.heap.size ≤ w.heap.size + 1 + 1; omega) _)).trans (belowK_b (w := w) (Nat.le_refl _) _ D _ _ (by omega) hK' rfl rfl)⟩
  case stop =>
    rintro D c pre W hD _ ⟨rfl, hs, hd⟩ hK
    have hc := hs.cell 0 rfl
    gi_wp2
    have hrc : w.heap.size + 1 + 1 < w2.heap.size := by omega
    refine ⟨by simp, .inl ⟨_, _, rfl, run_takeDeferred hK, ?_⟩⟩
    have hcell := (World.cell?_of_block (a := ⟨w.heap.size + 1 + 1, 0, none⟩) (World.putObj_heap_other (w := W) (o := .deferred none) (show w.heap.size + 1 + 1 ≠ D by omega))).trans hc
    exact ⟨_, tell_result _ _ (w.heap.size + 1 + 1) false rfl hcell, rfl,
      (HB2.out.trans (hs.2.mono (by omega))).trans (belowK_b (w := w) (Nat.le_refl _) _ D _ _ (by omega) hK rfl rfl)⟩

/-- the fewest marks that tell all pairs, of the first sets -/
def fewF (l : List Nat) (nv : Nat) (k : Nat) : Nat := (List.range k).foldl (fun a m => if many m < a && tellL l m then many m else a) nv
theorem fewF_succ (l : List Nat) (nv k : Nat) : fewF l nv (k + 1) = if many k < fewF l nv k && tellL l k then many k else fewF l nv k := by
  unfold fewF; rw [List.range_succ, List.foldl_append]; rfl
theorem fewF_le (l : List Nat) (nv : Nat) : ∀ k, fewF l nv k ≤ nv := by
  intro k
  induction k with
  | zero => exact Nat.le_refl _
  | succ k ih =>
    rw [fewF_succ]
    split
    · rename_i h; simp at h; omega
    · exact ih
theorem shl_one {n : Nat} (hn : n ≤ 5) : IntKind.u64.wrap (2 ^ n) = ((2 ^ n : Nat) : Int) := by
  have key : ∀ n : Fin 6, IntKind.u64.wrap (2 ^ n.val) = ((2 ^ n.val : Nat) : Int) := by decide +kernel
  exact key ⟨n, by omega⟩
theorem add_one_u64 {n : Nat} (hn : n ≤ 1000) : IntKind.u64.wrap ((n : Int) + 1) = ((n + 1 : Nat) : Int) := by
  rw [IntWalk.u64_in _ (by omega)]; omega

set_option maxRecDepth 100000 in
set_option maxHeartbeats 4000000 in
theorem few_any (N : Nat) (v : Value) (B : KB) (w : World) (h : BookAt N w v B) (hG : GoodB B) :
    Calls Try.prog 86 #[v] w fun e w' => e = .returned (.int .i64 (fewF (pairsL B B.ns) B.nv (2 ^ B.nv) : Nat)) ∧ Below w.heap.size w w' := by
  have h' := h
  obtain ⟨_, a1, z1, a2, z2, a3, z3, rfl, _⟩ := h'
  obtain ⟨ws, hws, HB, hsz, hblk⟩ := box1 w (.cells #[.slice a1 B.nv z1, .slice a2 B.ns z2, .slice a3 B.D.n z3] 26)
  have q0 := cell_blk hblk 0 rfl
  have q1 := cell_blk hblk 1 rfl
  have q2 := cell_blk hblk 2 rfl
  have HBK := Lib.hid (h.go HB.out)
  have HB0 : Hid (Below ws.heap.size ws ws) := Below.refl _ _
  have HNS : Hid (N ≤ ws.heap.size) := HBK.out.1
  have hlens := h.lens
  obtain ⟨hlv, hls, hln⟩ := hlens
  clear hblk h
  have HG := Lib.hid hG
  have hnv5 := hG.nv
  have hsl := shl_one hnv5
  have h32 : (2 : Nat) ^ B.nv ≤ 2 ^ 5 := Nat.pow_le_pow_right (by omega) hnv5
  obtain ⟨p2, hp2⟩ : ∃ p, (2 : Nat) ^ B.nv = p := ⟨_, rfl⟩
  rw [hp2] at hsl h32 ⊢
  have HFW := Lib.hid (fewF_succ (pairsL B B.ns) B.nv)
  have HFL := Lib.hid (fewF_le (pairsL B B.ns) B.nv)
  have HF0 : Hid (fewF (pairsL B B.ns) B.nv 0 = B.nv) := rfl
  obtain ⟨ff, hff⟩ : ∃ ff : Nat → Nat, fewF (pairsL B B.ns) B.nv = ff := ⟨_, rfl⟩
  rw [hff] at HFW HFL HF0 ⊢
  clear hG hp2 hff
  go_enter Try.func86, Try.ntmps86
  go_wp2
  clear hws
  go_loopw [3, 12] (fun a i wr => ∃ k : Nat, k ≤ p2 ∧ i = .int .u64 k ∧ a = .int .i64 (ff k : Nat) ∧ Hid (Below ws.heap.size ws wr)) (fun _ i _ => p2 - (intOf i).toNat)
  case atStart => exact ⟨0, Nat.zero_le _, rfl, by rw [HF0.out], HB0⟩
  case round =>
    obtain ⟨k, hk, rfl, rfl, HBr⟩ := hrel
    have cr := (old_of HBr.out).1
    have hszr := Nat.lt_of_lt_of_le hsz HBr.out.size
    by_cases hkp : k < p2
    · have hki : (k : Int) < (p2 : Int) := by omega
      have hk256 : k < 256 := by omega
      have HMK := Lib.hid (fun w' => setMany_any k hk256 w')
      have HF := Lib.hid (HFW.out k)
      have had := add_one_u64 (n := k) (by omega)
      have HKP := Lib.hid hkp
      have hfl := HFL.out k
      by_cases hm : many k < ff k
      · have hmi : ((many k : Nat) : Int) < ((ff k : Nat) : Int) := by omega
        cases ht : tellL (pairsL B B.ns) k with
        | true =>
          have HE : Hid (ff (k + 1) = many k) := by unfold Hid; rw [HF.out, ht]; simp [hm]
          have HT := Lib.hid ht
          clear ht hkp hk hm
          go_wp2_with (first
            | (go_at_call 111; refine (HMK.out _).mono ?_; rintro e wq ⟨rfl, hwq⟩; rw [hwq]; clear hwq wq)
            | (go_at_call 124; refine (tellAll_any N _ B k _ (HBK.out.go HBr.out) HG.out hk256).mono ?_; rw [HT.out]; rintro e w3 ⟨rfl, hb3⟩; (try clear cr); have HB3 := Lib.hid (bel HBr.out hb3); have c3 := (old_of HB3.out).1; clear hb3))
          go_roundw
          case rel => exact ⟨k + 1, HKP.out, rfl, by rw [HE.out], HB3⟩
          case measure => simp [intOf]; have := HKP.out; omega
        | false =>
          have HE : Hid (ff (k + 1) = ff k) := by unfold Hid; rw [HF.out, ht]; simp
          have HT := Lib.hid ht
          clear ht hkp hk hm
          go_wp2_with (first
            | (go_at_call 111; refine (HMK.out _).mono ?_; rintro e wq ⟨rfl, hwq⟩; rw [hwq]; clear hwq wq)
            | (go_at_call 124; refine (tellAll_any N _ B k _ (HBK.out.go HBr.out) HG.out hk256).mono ?_; rw [HT.out]; rintro e w3 ⟨rfl, hb3⟩; (try clear cr); have HB3 := Lib.hid (bel HBr.out hb3); have c3 := (old_of HB3.out).1; clear hb3))
          go_roundw
          case rel => exact ⟨k + 1, HKP.out, rfl, by rw [HE.out], HB3⟩
          case measure => simp [intOf]; have := HKP.out; omega
      · have hmi : ¬ ((many k : Nat) : Int) < ((ff k : Nat) : Int) := by omega
        have HE : Hid (ff (k + 1) = ff k) := by unfold Hid; rw [HF.out]; simp [hm]
        clear hkp hk hm
        go_wp2_with (first
          | (go_at_call 111; refine (HMK.out _).mono ?_; rintro e wq ⟨rfl, hwq⟩; rw [hwq]; clear hwq wq))
        go_roundw
        case rel => exact ⟨k + 1, HKP.out, rfl, by rw [HE.out], HBr⟩
        case measure => simp [intOf]; have := HKP.out; omega
    · have hki : ¬ (k : Int) < (p2 : Int) := by omega
      have HKE : Hid (k = p2) := by unfold Hid; omega
      go_wp2
      go_ret
      exact ⟨ret_int (by rw [HKE.out]), fin HB.out HBr.out⟩

end Go.Proofs.Ytbieglmpkljjjaa
