/-
  Idle: the questions that tell nothing.
-/
import Derived.Test.YtbieglmpkljjjaaCube
import Derived.Deep.OwnRows
import Derived.Stop.RegionWithIn
import Derived.Test.YtbieglmpkljjjaaIter
namespace Go.Proofs.Ytbieglmpkljjjaa
open Go.RowKit Go.Shelf

attribute [local go_sem] Oper.semAt_some

theorem Try.infoSet : (Try.prog.info? 104).map (fun i => (i.zero, i.size, i.bytes)) = some (some (.int .u64 0), 1, 8) := by kernel_rfl

/-- no mark is fixed -/
def anyC : Nat → Int := fun _ => -1
def cube5 (k : Nat) : Array Value := #[.int .i64 (if 0 < k then -1 else 0), .int .i64 (if 1 < k then -1 else 0), .int .i64 (if 2 < k then -1 else 0), .int .i64 (if 3 < k then -1 else 0), .int .i64 (if 4 < k then -1 else 0)]

set_option maxHeartbeats 4000000 in
theorem allFruits_any (w : World) :
    Calls Try.prog 79 #[] w fun e w' => e = .returned (cubeV anyC) ∧ Below w.heap.size w w' := by
  go_enter Try.func79, Try.ntmps79
  go_wp2
  go_loopw [3] (fun i wr => ∃ k : Nat, k ≤ 5 ∧ i = .int .i64 k ∧ wr = (w.alloc (.cells (cube5 0) 94)).alloc (.cells (cube5 k) 94)) (fun i _ => 5 - (intOf i).toNat)
  case atStart => exact ⟨0, by omega, rfl, rfl⟩
  case round =>
    obtain ⟨k, hk, rfl, rfl⟩ := hrel
    by_cases hk5 : k < 5
    · rcases k with _ | _ | _ | _ | _ | k
      all_goals first | omega | skip
      all_goals
        simp only [cube5]
        go_wp2
        go_roundw
        case rel => first | exact ⟨1, by omega, rfl, rfl⟩ | exact ⟨2, by omega, rfl, rfl⟩ | exact ⟨3, by omega, rfl, rfl⟩ | exact ⟨4, by omega, rfl, rfl⟩ | exact ⟨5, by omega, rfl, rfl⟩
        case measure => simp [intOf]
    · obtain rfl : k = 5 := by omega
      simp only [cube5]
      go_wp2
      exact bodyPost_ret (v := cubeV anyC) (by simp [results, Try.results79, go_sem, cubeV, anyC]) rfl ⟨rfl, below2 (Nat.le_refl _) _ _⟩

set_option maxHeartbeats 800000 in
theorem cfruits_any (c : Nat → Int) (au : Option Addr) (nx cu : Nat) (w : World) :
    Calls Try.prog 108 #[cubeV c, .slice au nx cu] w fun e w' => e = .returned (.func (.func 138) #[] #[.pointer (some ⟨w.heap.size, 0, none⟩), .pointer (some ⟨w.heap.size + 1, 0, none⟩)]) ∧ w' = (w.alloc (.cells #[.int .i64 (c 0), .int .i64 (c 1), .int .i64 (c 2), .int .i64 (c 3), .int .i64 (c 4)] 94)).alloc (.cells #[.slice au nx cu] 22) := by
  unfold cubeV
  go_enter Try.func108, Try.ntmps108
  go_wp2
  go_ret
  exact ⟨rfl, rfl⟩

theorem allocs3 (w : World) (o1 o2 o3 : Obj) : ∃ ws : World, ((w.alloc o1).alloc o2).alloc o3 = ws ∧ Hid (Below w.heap.size w ws) ∧ ws.heap.size = w.heap.size + 3 ∧
    ws.heap[w.heap.size]? = some o1 ∧ ws.heap[w.heap.size + 1]? = some o2 ∧ ws.heap[w.heap.size + 1 + 1]? = some o3 :=
  ⟨_, rfl, allocs_below [o1, o2, o3] w, by simp, allocs_at [o1, o2, o3] w 0 _ rfl, allocs_at [o1, o2, o3] w 1 _ rfl, allocs_at [o1, o2, o3] w 2 _ rfl⟩

/-- the fruits of a book whose first values are p -/
def frl (V : Nat → Int) : Nat → List Int → List (List Int)
  | 0, p => [p]
  | k + 1, p => (List.range (V p.length).toNat).flatMap fun v : Nat => frl V k (p ++ [(v : Int)])
def atL (l : List Int) (m : Nat) : Int := l.getD m 0
def allF (B : KB) : List (List Int) := frl B.V B.nv []

theorem frl_mem (V : Nat → Int) : ∀ (k : Nat) (p z : List Int), z ∈ frl V k p ↔ ∃ q, z = p ++ q ∧ q.length = k ∧ ∀ i, i < k → 0 ≤ atL q i ∧ atL q i < V (p.length + i) := by
  intro k
  induction k with
  | zero =>
    intro p z
    simp only [frl, List.mem_singleton]
    constructor
    · rintro rfl; exact ⟨[], by simp, rfl, fun i hi => by omega⟩
    · rintro ⟨q, rfl, hq, _⟩; rw [List.length_eq_zero_iff.1 hq]; simp
  | succ k ih =>
    intro p z
    simp only [frl, List.mem_flatMap, List.mem_range]
    constructor
    · rintro ⟨v, hv, hz⟩
      obtain ⟨q, rfl, hq, hr⟩ := (ih _ _).1 hz
      refine ⟨(v : Int) :: q, by simp, by simp [hq], fun i hi => ?_⟩
      cases i with
      | zero => simp [atL]; omega
      | succ i =>
        have := hr i (by omega)
        rw [List.length_append, List.length_singleton, Nat.add_assoc, Nat.add_comm 1 i] at this
        simpa [atL] using this
    · rintro ⟨q, rfl, hq, hr⟩
      cases q with
      | nil => simp at hq
      | cons v q =>
        have h0 := hr 0 (by omega)
        simp [atL] at h0
        refine ⟨v.toNat, by omega, (ih _ _).2 ⟨q, by rw [show ((v.toNat : Nat) : Int) = v by omega]; simp, by simpa using hq, fun i hi => ?_⟩⟩
        have := hr (i + 1) (by omega)
        rw [List.length_append, List.length_singleton, Nat.add_assoc, Nat.add_comm 1 i]
        simpa [atL] using this
theorem allF_mem (B : KB) (z : List Int) : z ∈ allF B ↔ z.length = B.nv ∧ InC anyC B.V B.nv (atL z) := by
  unfold allF
  rw [frl_mem]
  constructor
  · rintro ⟨q, rfl, hq, hr⟩
    refine ⟨by simpa using hq, fun i hi => ?_⟩
    have := hr i hi
    simp at this ⊢
    exact ⟨this.1, this.2, fun h => absurd rfl h⟩
  · rintro ⟨h1, h2⟩
    exact ⟨z, by simp, h1, fun i hi => by have := h2 i hi; simp; exact ⟨this.1, this.2.1⟩⟩
theorem inC_goodX {nv : Nat} {V x : Nat → Int} (h : InC anyC V nv x) : GoodX nv V nv x := ⟨rfl, fun i hi => ⟨(h i hi).1, (h i hi).2.1⟩⟩

theorem nxt_congr {nv : Nat} {V : Nat → Int} {ns : Nat} {D : Nd} {x y : Nat → Int} (hD : GoodN nv V ns D) (h : ∀ i, i < nv → x i = y i) {i : Nat} (hi : i < D.n) (hm : D.M i ≠ -1) : nxt D x i = nxt D y i := by
  obtain ⟨a, b, _⟩ := hD.ask i hi hm
  unfold nxt
  rw [h _ (by omega)]
theorem wk_congr {nv : Nat} {V : Nat → Int} {ns : Nat} {D : Nd} {n : Nat} {x y : Nat → Int} (hD : GoodN nv V ns D) (hx : GoodX nv V n x) (h : ∀ i, i < nv → x i = y i) : ∀ (f i : Nat), D.n - i ≤ f → i < D.n → wk D x i = wk D y i := by
  have hy : GoodX nv V n y := ⟨hx.n, fun i hi => by rw [← h i hi]; exact hx.x i hi⟩
  intro f
  induction f with
  | zero => intro i _ _; omega
  | succ f ih =>
    intro i hf hi
    by_cases hm : D.M i = -1
    · rw [wk_stop hD hi hm, wk_stop hD hi hm]
    · obtain ⟨h1, h2, _⟩ := nxt_ok hD hx hi hm
      rw [wk_go hD hx hi hm, wk_go hD hy hi hm, ih _ (by omega) h2, nxt_congr hD h hi hm]
theorem walk_congr {nv : Nat} {V : Nat → Int} {ns : Nat} {D : Nd} {n : Nat} {x y : Nat → Int} (hD : GoodN nv V ns D) (hx : GoodX nv V n x) (h : ∀ i, i < nv → x i = y i) : walk D x = walk D y := by
  rw [walk_wk, walk_wk]; exact wk_congr hD hx h D.n 0 (by omega) hD.n1

/-- the fruit x comes to the question i with the value v -/
def comesV (B : KB) (x : Nat → Int) (i v : Nat) : Prop := i ∈ walk B.D x ∧ B.D.M i ≠ -1 ∧ (x (B.D.M i).toNat).toNat = v
/-- some fruit does -/
def hasV (B : KB) (i v : Nat) : Bool := (allF B).any fun z => (walk B.D (atL z)).contains i && decide (B.D.M i ≠ -1) && decide ((atL z (B.D.M i).toNat).toNat = v)
theorem hasV_iff {B : KB} (hG : GoodB B) {ys : List (Nat × Nat × (Nat → Int))} (hys : FrAll B.nv anyC B.V ys) (i v : Nat) (hi : i < B.D.n) : hasV B i v = true ↔ ∃ y ∈ ys, comesV B y.2.2 i v := by
  unfold hasV
  simp only [List.any_eq_true, Bool.and_eq_true, decide_eq_true_eq, List.contains_iff_mem]
  constructor
  · rintro ⟨z, hz, ⟨h1, h2⟩, h3⟩
    obtain ⟨_, hin⟩ := (allF_mem B z).1 hz
    obtain ⟨y, hy, he⟩ := hys.2 _ hin
    have e1 := walk_congr hG.D (inC_goodX hin) (fun i hi => (he i hi).symm)
    obtain ⟨a, b, _⟩ := hG.D.ask i hi h2
    exact ⟨y, hy, by rw [← e1]; exact h1, h2, by rw [he _ (by omega)]; exact h3⟩
  · rintro ⟨y, hy, h1, h2, h3⟩
    have hin := hys.1 y hy
    have hat : ∀ i, i < B.nv → atL (fromF B.nv y.2.2) i = y.2.2 i := fun i hi => by simp [atL, fromF, hi]
    have hin' : InC anyC B.V B.nv (atL (fromF B.nv y.2.2)) := fun i hi => by rw [hat i hi]; exact hin i hi
    have e1 := walk_congr hG.D (inC_goodX hin') hat
    obtain ⟨a, b, _⟩ := hG.D.ask i hi h2
    exact ⟨fromF B.nv y.2.2, (allF_mem B _).2 ⟨fromF_len _ _, hin'⟩, ⟨by rw [e1]; exact h1, h2⟩, by rw [hat _ (by omega)]; exact h3⟩

def idleP (B : KB) (i : Nat) : Bool := decide (cnt 8 (fun v => hasV B i v) = 1)
def eIdle (B : KB) : List Int × Int := if okKB B then (sel (idleP B) B.D.n, 0) else ([], 20)

/-- the sets say which values have come -/
def Came (B : KB) (S : Nat → Nat) (T : Nat → Nat → Prop) : Prop := ∀ i, i < B.D.n → S i < 8 ∧ ∀ v, (S i).testBit v = true ↔ T i v
theorem put1_lt8 {s i : Nat} (hs : s < 8) (hi : i < 3) : put1 s i < 8 := by
  have : ∀ s : Fin 8, ∀ i : Fin 3, put1 s.val i.val < 8 := by decide +kernel
  exact this ⟨s, hs⟩ ⟨i, hi⟩

/-- the block g holds the values f -/
def RowAt (W : World) (g n : Nat) (f : Nat → Value) : Prop := ∀ i, i < n → W.cell? ⟨g, i, none⟩ = some (f i) ∧ W.frozen? ⟨g, i, none⟩ = false
def updV (f : Nat → Value) (k : Nat) (v : Value) : Nat → Value := fun i => if i = k then v else f i
theorem RowAt.set {W : World} {g n : Nat} {f : Nat → Value} (h : RowAt W g n f) {k : Nat} (v : Value) : RowAt (W.setCell ⟨g, k, none⟩ v) g n (updV f k v) := fun i hi => by
  obtain ⟨h1, h2⟩ := h i hi
  refine ⟨?_, (World.frozen?_setCell _ _ _ _).trans h2⟩
  by_cases e : i = k
  · subst e; simp only [updV, if_true]; exact World.cell?_setCell_same _ _ _ h1
  · simp only [updV, e, if_false]; exact (World.cell?_setCell_other _ _ _ _ (by simp)).trans h1
theorem RowAt.kept {W W' : World} {g n : Nat} {f : Nat → Value} (h : RowAt W g n f) (k : W'.heap[g]? = W.heap[g]?) : RowAt W' g n f := fun i hi => by
  obtain ⟨h1, h2⟩ := h i hi
  have e : W'.frozen? ⟨g, i, none⟩ = W.frozen? ⟨g, i, none⟩ := by simp [World.frozen?, k]
  exact ⟨(World.cell?_of_block (w := W) k).trans h1, e.trans h2⟩

end Go.Proofs.Ytbieglmpkljjjaa

namespace Go.Proofs.Ytbieglmpkljjjaa
open Go.RowKit Go.Shelf

attribute [local go_sem] Oper.semAt_some

def u64F (S : Nat → Nat) (i : Nat) : Value := .int .u64 (S i : Nat)
def setsOf (B : KB) (ys : List (Nat × Nat × (Nat → Int))) (i v : Nat) : Prop := ∃ y ∈ ys, comesV B y.2.2 i v
def setsIn (B : KB) (ys : List (Nat × Nat × (Nat → Int))) (x : Nat → Int) (pw : List Nat) (i v : Nat) : Prop := setsOf B ys i v ∨ (i ∈ pw ∧ B.D.M i ≠ -1 ∧ (x (B.D.M i).toNat).toNat = v)

theorem cnt_congr' {n : Nat} {p q : Nat → Bool} (h : ∀ i, i < n → p i = q i) : cnt n p = cnt n q := by
  induction n with
  | zero => rfl
  | succ n ih => simp only [cnt]; rw [ih (fun i hi => h i (by omega)), h n (by omega)]

theorem made_row {W : World} {g n : Nat} {t : TypeId} (h : W.heap[g]? = some (.cells (madeCells #[.int .u64 0] n) t)) : RowAt W g n (u64F fun _ => 0) := fun i hi => by
  refine ⟨?_, free_blk h i⟩
  have e : (madeCells #[Value.int .u64 0] n)[i]? = some (.int .u64 0) := by simp [madeCells, hi, Nat.mod_one]
  rw [cell_blk h i e]; rfl

/-- what stands between two fruits -/
def IdI (B : KB) (ws : World) (gc M : Nat) (o : Obj) (ys : List (Nat × Nat × (Nat → Int))) (W : World) : Prop := ∃ S, Came B S (setsOf B ys) ∧ RowAt W gc B.D.n (u64F S) ∧ W.heap[gc + 1]? = some o ∧ ws.heap.size ≤ W.heap.size ∧ Below M ws W

set_option maxRecDepth 100000 in
set_option maxHeartbeats 4000000 in
theorem idle_any (N : Nat) (v : Value) (B : KB) (w : World) (h : BookAt N w v B) (hG : GoodB B) :
    Calls Try.prog 75 #[v] w (GivesI w.heap.size w (sel (idleP B) B.D.n)) := by
  obtain ⟨i0, hi, hz0, hz1, hz2⟩ := info_parts Try.infoInt
  obtain ⟨hN, a1, z1, a2, z2, a3, z3, rfl, _⟩ := id h
  have HB := Lib.hid h
  have HG := Lib.hid hG
  have hnn := hG.nn
  have hn1 := hG.D.n1
  have hnv1 := hG.nv1
  have hnv5 := hG.nv
  clear h hG
  refine (callsIn_wide (n := 9)).1 ?_
  refine callsIn_of_wp_marks Try.func75 rfl trivial ?_ rfl
  simp only [Try.ntmps75, List.size_toArray, List.length_cons, List.length_nil, Nat.reduceAdd, Nat.reduceSub, Array.replicate_succ, Array.replicate_zero, List.push_toArray, List.append_toArray, List.nil_append, List.cons_append]
  have hmk := run_make_row' (P := Try.prog) 129 104 (.int .u64 0) 8 Try.underlying129 Try.infoSet rfl .i64 .i64 B.D.n (by omega) (by omega)
  gi_wp2
  obtain ⟨ws, hws, HBs, hsz, k0, k1, k2⟩ := allocs3 w (.cells #[.slice a1 B.nv z1, .slice a2 B.ns z2, .slice a3 B.D.n z3] 26) (.cells (madeCells #[.int .u64 0] B.D.n) 104) (.cells #[.slice (some ⟨w.heap.size + 1, 0, none⟩) B.D.n B.D.n] 129)
  rw [hws]
  clear hws hmk
  have b0 := cell_blk k0 0 rfl
  have hlt : w.heap.size < ws.heap.size := by omega
  have HB0 : Hid (Below ws.heap.size ws ws) := Below.refl _ _
  have S0d := old_of HB0.out.drew; have HB0d := S0d.2
  refine calm (wpIn_wide.2 ?_)
  go_region_held3 (fun w' => (∀ b o, b < ws.heap.size → w'.cell? ⟨b, o, none⟩ = ws.cell? ⟨b, o, none⟩) ∧ Hid (Below ws.heap.size ws w')) (assumption) (first
    | (go_at_call 79; refine (allFruits_any _).mono ?_; rintro e w1 ⟨rfl, hb1⟩; have S1 := old_of (bel HB0d.out hb1); have HB1 := S1.2; clear hb1)
    | (go_at_call 108; refine (cfruits_any _ _ _ _ _).mono ?_; rintro e w' ⟨rfl, hw2⟩; rw [hw2]; clear hw2 w'; obtain ⟨w2, hw2, HBf, hszf, hszf1, hblk1, hblk2⟩ := box2 w1 (.cells #[.int .i64 (anyC 0), .int .i64 (anyC 1), .int .i64 (anyC 2), .int .i64 (anyC 3), .int .i64 (anyC 4)] 94) (.cells #[.slice a1 B.nv z1] 22); rw [hw2]; clear hw2; have hb2 := HBf.out; have S2 := old_of (bel HB1.out hb2); have HB2 := S2.2; clear hb2))
  have HB2 := S2.2
  clear S2 S0d
  unfold onlyN
  gi_wp2
  obtain ⟨bnn, onn, rfl, hbn, hrn⟩ := HB.out.nodes.cells hn1
  have HRN := Lib.hid hrn
  have HC1 : Hid (w2.heap[w1.heap.size]? = _) := hblk1
  have HC2 : Hid (w2.heap[w1.heap.size + 1]? = _) := hblk2
  have hw12 : ws.heap.size ≤ w1.heap.size := HB1.out.size
  have hw2s : w1.heap.size + 1 < w2.heap.size := hszf1
  have K0 := Lib.hid k0
  have K1 := Lib.hid k1
  have K2 := Lib.hid k2
  have HBW : Hid (Below w.heap.size w w2) := fin HBs.out HB2.out
  have hseq := fruits1_seq 8 (by omega) w1.heap.size (w1.heap.size + 1) N B.nv anyC B.V (fun k => k = w.heap.size + 1) (KeptC fun k => k = w.heap.size + 1) (fun _ _ h => h) w2 a1 z1 HC1.out (cell_blk HC2.out 0 rfl)
    (HB.out.go HBW.out).vals (Nat.le_trans hN HBW.out.size) (by omega) (by omega) (fun k hk => by omega) (fun k hk => by omega) hnv1 hnv5 HG.out.V (fun i hi => .inl rfl)
  have HSEQ := Lib.hid hseq
  clear hseq hrn hblk1 hblk2 k0 k1 k2 b0
  have hgc : w.heap.size + 1 < w2.heap.size := by omega
  have HROW : Hid (RowAt w2 (w.heap.size + 1) B.D.n (u64F fun _ => 0)) := made_row ((HB2.out.block (w.heap.size + 1) (by omega)).trans K1.out)
  refine rangeLH (w := w2) rfl (by omega) (gf := 138) (lb := #[.pointer (some ⟨w1.heap.size, 0, none⟩), .pointer (some ⟨w1.heap.size + 1, 0, none⟩)]) rfl trivial (enters_of Try.func138 (by kernel_rfl) rfl) HSEQ.out
    (fun h k => KeptC.trans h k) (fun W l o o' hl hW ho => ⟨by simp [World.putObj], fun k ob hk hc _ => (World.putObj_heap_other (by intro e; subst e; rw [hW] at hk; cases hk; rw [ho] at hc; cases hc)).trans hk⟩) (Below.refl _ _) (fun _ => rfl)
    (fun W A C k o hab hk hA _ => (hab.block k hk).trans hA)
    (IdI B w2 (w.heap.size + 1) (w.heap.size + 1) (.cells #[.slice (some ⟨w.heap.size + 1, 0, none⟩) B.D.n B.D.n] 129)) (fun _ _ _ => False)
    (fun s A l o o' hs hl hA ho => by
      obtain ⟨S, h1, h2, h3, h4, h5⟩ := hs
      exact ⟨S, h1, h2.kept (World.putObj_heap_other (by omega)), (World.putObj_heap_other (by omega)).trans h3, by simpa [World.putObj] using h4, h5.trans (below_putObj o' hA (by omega))⟩)
    (fun _ _ _ _ _ _ h _ _ _ => h)
    (fun x A l o o' hs hl hA ho => ⟨hs.1, by simpa [World.putObj] using hs.2.1, hs.2.2.1.kept (World.putObj_heap_other (by
      intro e
      obtain ⟨ob, hob, hc⟩ := cells_of_cell (hs.2.2.1 0 (by omega)).1
      have hob' : A.heap[x.1]? = some ob := hob
      rw [e, hA] at hob'; cases hob'; rw [ho] at hc; cases hc)), hs.2.2.2⟩)
    (fun W s A C hW hs hk => by
      obtain ⟨S, h1, h2, h3, h4, h5⟩ := hs
      exact ⟨S, h1, h2.kept (hk.block _ (by omega)), (hk.block _ (by omega)).trans h3, Nat.le_trans h4 hk.size, h5.trans (hk.mono (by omega))⟩)
    (fun _ _ _ _ _ _ h _ => h)
    (fun s A o hs => by
      obtain ⟨S, h1, h2, h3, h4, h5⟩ := hs
      have hk := below_alloc (Nat.le_refl A.heap.size) o
      exact ⟨S, h1, h2.kept (hk.block _ (by omega)), (hk.block _ (by omega)).trans h3, Nat.le_trans h4 hk.size, h5.trans (hk.mono (by omega))⟩)
    ⟨fun _ => 0, fun i _ => ⟨by show 0 < 8; omega, fun v => ⟨fun h => by simp at h, fun ⟨y, hy, _⟩ => by cases hy⟩⟩, HROW.out, (HB2.out.block _ (by omega)).trans K2.out, Nat.le_refl _, Below.refl _ _⟩
    (fun x a' W => ∃ Bx, w2.heap.size ≤ Bx ∧ W.heap[Bx]? = some (.cells #[.slice (some ⟨x.1, 0, none⟩) B.nv x.2.1] 22) ∧ a' = { tmps := #[.agg #[.slice a1 B.nv z1, .slice a2 B.ns z2, .slice (some ⟨bnn, onn, none⟩) B.D.n z3], .pointer (some ⟨w.heap.size, 0, none⟩), .slice none 0 0, .pointer (some ⟨w.heap.size + 1 + 1, 0, none⟩), .pointer (some ⟨Bx, 0, none⟩), undef, undef, undef, undef, undef, .pointer (some ⟨w.heap.size, 2, none⟩), .slice (some ⟨bnn, onn, none⟩) B.D.n z3, .int .i64 B.D.n, .slice (some ⟨w.heap.size + 1, 0, none⟩) B.D.n B.D.n, cubeV anyC, .pointer (some ⟨w.heap.size, 0, none⟩), .slice a1 B.nv z1, .func (.func 138) #[] #[.pointer (some ⟨w1.heap.size, 0, none⟩), .pointer (some ⟨w1.heap.size + 1, 0, none⟩)], .slice (some ⟨x.1, 0, none⟩) B.nv x.2.1, undef, undef, undef, undef, undef, undef, undef, undef, undef, undef, undef, undef, undef, undef, undef, undef, undef, undef, undef, undef, undef, undef, undef, undef, undef, undef, undef, undef, undef, undef, undef, undef, undef, undef, undef, undef, undef, undef, undef, undef], defers := [] })
    (fun x a' A l o o' hs hl hA ho => by
      obtain ⟨Bx, h1, h2, h3⟩ := hs
      exact ⟨Bx, h1, (World.putObj_heap_other (by intro e; subst e; rw [hA] at h2; cases h2; cases ho)).trans h2, h3⟩) ?assign ?body ?done ?stop
  case assign =>
    intro l pre x W K hs hg hK
    gi_wp2
    obtain ⟨S, h1, h2, h3, h4, h5⟩ := hs
    have hk := below_alloc (Nat.le_refl W.heap.size) (.cells #[.slice (some ⟨x.1, 0, none⟩) B.nv x.2.1] 22)
    refine hK _ _ ((KeepsOthers.alloc _ _).from _) ⟨hk.size, fun k o ho _ _ => (hk.block k (heap_lt ho)).trans ho⟩ ⟨S, h1, h2.kept (hk.block _ (by omega)), (hk.block _ (by omega)).trans h3, Nat.le_trans h4 hk.size, h5.trans (hk.mono (by omega))⟩
      ⟨hg.1, Nat.lt_of_lt_of_le hg.2.1 hk.size, hg.2.2.1.kept (hk.block _ hg.2.1), hg.2.2.2⟩ ⟨W.heap.size, h4, World.alloc_heap_new _ _, rfl⟩
  case body =>
    intro l pre x a' W hl hrec hs hg hax _
    obtain ⟨fg, fcap, fx⟩ := x
    obtain ⟨Bx, hBx, hbox, rfl⟩ := hax
    obtain ⟨S0, hS, hrow, hvar, hszW, hbelW⟩ := hs
    obtain ⟨hg1, hg2, hg3, hg4⟩ := hg
    dsimp only at hbox hg1 hg2 hg3 hg4 ⊢
    have hlW : l < W.heap.size := by obtain ⟨r, hr⟩ := hrec; exact heap_lt hr
    have hBxW : Bx < W.heap.size := heap_lt hbox
    have f0 := cell_blk hbox 0 rfl
    have hBW0 : Below w.heap.size w W := HBW.out.trans (hbelW.mono (by omega))
    have hbb : W.heap[w.heap.size]? = some (.cells #[.slice a1 B.nv z1, .slice a2 B.ns z2, .slice (some ⟨bnn, onn, none⟩) B.D.n z3] 26) := (hbelW.block _ (by omega)).trans ((HB2.out.block _ (by omega)).trans K0.out)
    have b0 := cell_blk hbb 0 rfl
    have b1 := cell_blk hbb 1 rfl
    have b2 := cell_blk hbb 2 rfl
    have hw2W := hbelW.size
    gi_wp2_with (refine ⟨trivial, ?_⟩; gi_at_call 70; refine (CallsIn.inRound l (callsIn_wide.2 (kwalk_any _ _ _ _ _ _ _))).mono ?_; rintro e w' ⟨rfl, hw3⟩; rw [hw3]; clear hw3 w'; obtain ⟨wk, hwk, HBk, hszk, hszk1, hblk1, hblk2⟩ := box2 W (.cells #[.slice a1 B.nv z1, .slice a2 B.ns z2, .slice (some ⟨bnn, onn, none⟩) B.D.n z3] 26) (.cells #[.slice (some ⟨fg, 0, none⟩) B.nv fcap] 22); rw [hwk]; clear hwk)
    have hgcf : fg ≠ w.heap.size + 1 := by omega
    have hgcx : Bx ≠ w.heap.size + 1 := by omega
    have hszk' : W.heap.size ≤ wk.heap.size := HBk.out.size
    have HBKW : Hid (Below w.heap.size w wk) := hBW0.trans (HBk.out.mono hBW0.size)
    have HGX : Hid (GoodX B.nv B.V B.nv fx) := inC_goodX hg4
    have HCF : Hid (CellsAt wk fg B.nv fx) := hg3.kept (HBk.out.block fg hg2)
    have HRW : Hid (RowAt wk (w.heap.size + 1) B.D.n (u64F S0)) := hrow.kept (HBk.out.block _ (by omega))
    have HVR : Hid (wk.heap[w.heap.size + 1 + 1]? = _) := (HBk.out.block _ (by omega)).trans hvar
    have HBX : Hid (wk.heap[Bx]? = _) := (HBk.out.block _ hBxW).trans hbox
    have HBBK : Hid (wk.heap[w.heap.size]? = _) := (HBk.out.block _ (by omega)).trans hbb
    have HBE : Hid (Below (w.heap.size + 1) w2 wk) := hbelW.trans (HBk.out.mono (by omega))
    have HCS : Hid (Came B S0 (setsIn B pre fx [])) := fun i hi => ⟨(hS i hi).1, fun v => ((hS i hi).2 v).trans ⟨.inl, fun h => by rcases h with h | ⟨h, _⟩; exact h; cases h⟩⟩
    have hseq2 := walk1_seq 6 (by omega) W.heap.size (W.heap.size + 1) N B.D B.nv B.V B.ns B.nv fx (fun k => k < wk.heap.size ∧ k ≠ w.heap.size + 1) (Kept fun k => k < wk.heap.size ∧ k ≠ w.heap.size + 1) (fun _ _ h => h) wk (.bool true) (.bool true) _ z3 _ fcap
      (cell_blk hblk1 2 rfl) (cell_blk hblk2 0 rfl) (HB.out.go HBKW.out).nodes (fun _ => ⟨fg, 0, rfl, ⟨by omega, hgcf⟩, fun i hi => by rw [Nat.zero_add]; exact (HCF.out i hi).1⟩)
      (fun k hk => ⟨by omega, by omega⟩) ⟨hszk, by omega⟩ ⟨hszk1, by omega⟩ (fun k hk => hk.1) HG.out.D HGX.out
    have HSEQ2 := Lib.hid hseq2
    have HKW : Hid (∀ k, k < W.heap.size → wk.heap[k]? = W.heap[k]?) := fun k hk => HBk.out.block k hk
    have HROW0 := Lib.hid hrow
    have HIN4 := Lib.hid hg4
    clear hseq2 hblk1 hblk2 hS hrow hvar hbox hbb f0 b0 b1 b2 hg3 hg4 hbelW hBW0
    have hrk : ∃ r, wk.heap[l]? = some (.loop r) := by obtain ⟨r, hr⟩ := hrec; exact ⟨r, (HKW.out l hlW).trans hr⟩
    obtain ⟨r0, hr0⟩ := hrk
    refine rangeN (w := wk) (l₀ := l) (r₀ := r0) rfl hr0 (by omega) (gf := 107) (lb := #[.pointer (some ⟨W.heap.size, 0, none⟩), .pointer (some ⟨W.heap.size + 1, 0, none⟩)]) rfl trivial (enters_of Try.func107 (by kernel_rfl) rfl) (HSEQ2.out.inRound l)
      (fun h k => Kept.trans h k) (fun W l o o' hl _ _ k hk => World.putObj_heap_other (by omega)) (Below.refl _ _) (fun _ => rfl) new_cells
      (fun pw W' => ∃ S, Came B S (setsIn B pre fx pw) ∧ RowAt W' (w.heap.size + 1) B.D.n (u64F S) ∧ (Kept (fun k => k < wk.heap.size ∧ k ≠ w.heap.size + 1) wk W' ∧ wk.heap.size ≤ W'.heap.size) ∧ Below (w.heap.size + 1) w2 W') (fun _ _ _ => False)
      (fun s A l o o' hs hl hA ho => by
        obtain ⟨S, h1, h2, h3, h4⟩ := hs
        exact ⟨S, h1, h2.kept (World.putObj_heap_other (by omega)), ⟨h3.1.trans fun k hk => World.putObj_heap_other (by omega), by simpa [World.putObj] using h3.2⟩, h4.trans (below_putObj o' hA (by omega))⟩)
      (fun _ _ _ _ _ _ h _ _ _ => h) (fun _ _ _ _ _ h _ _ _ => h)
      (fun W0 s A C hW hs hk => by
        obtain ⟨S, h1, h2, h3, h4⟩ := hs
        exact ⟨S, h1, h2.kept (hk.block _ (by omega) (by simp)), ⟨h3.1.trans fun k hk2 => hk.block k (by omega) (by simp), Nat.le_trans h3.2 hk.size⟩, h4.trans ((grown_below hk).mono (by omega))⟩)
      (fun _ _ _ _ _ _ h _ => h)
      (fun s A o hs => by
        obtain ⟨S, h1, h2, h3, h4⟩ := hs
        have hk := below_alloc (Nat.le_refl A.heap.size) o
        exact ⟨S, h1, h2.kept (hk.block _ (by omega)), ⟨h3.1.trans fun k hk2 => hk.block k (by omega), Nat.le_trans h3.2 hk.size⟩, h4.trans (hk.mono (by omega))⟩)
      ⟨S0, HCS.out, HRW.out, ⟨Kept.refl _ _, Nat.le_refl _⟩, HBE.out⟩ (fun W => Kept.refl _ W)
      (fun k => { tmps := #[.agg #[.slice a1 B.nv z1, .slice a2 B.ns z2, .slice (some ⟨bnn, onn, none⟩) B.D.n z3], .pointer (some ⟨w.heap.size, 0, none⟩), .slice none 0 0, .pointer (some ⟨w.heap.size + 1 + 1, 0, none⟩), .pointer (some ⟨Bx, 0, none⟩), .int .i64 (k : Int), undef, undef, undef, undef, .pointer (some ⟨w.heap.size, 2, none⟩), .slice (some ⟨bnn, onn, none⟩) B.D.n z3, .int .i64 B.D.n, .slice (some ⟨w.heap.size + 1, 0, none⟩) B.D.n B.D.n, cubeV anyC, .pointer (some ⟨w.heap.size, 0, none⟩), .slice a1 B.nv z1, .func (.func 138) #[] #[.pointer (some ⟨w1.heap.size, 0, none⟩), .pointer (some ⟨w1.heap.size + 1, 0, none⟩)], .slice (some ⟨fg, 0, none⟩) B.nv fcap, .agg #[.slice a1 B.nv z1, .slice a2 B.ns z2, .slice (some ⟨bnn, onn, none⟩) B.D.n z3], .slice (some ⟨fg, 0, none⟩) B.nv fcap, .func (.func 107) #[] #[.pointer (some ⟨W.heap.size, 0, none⟩), .pointer (some ⟨W.heap.size + 1, 0, none⟩)], .int .i64 (k : Int), undef, undef, undef, undef, undef, undef, undef, undef, undef, undef, undef, undef, undef, undef, undef, undef, undef, undef, undef, undef, undef, undef, undef, undef, undef, undef, undef, undef, undef, undef, undef, undef, undef, undef, undef, undef], defers := [] }) ?assign2 ?body2 ?done2 ?stop2
    case assign2 =>
      intro l x W K hK
      gi_wp2
      exact hK
    case body2 =>
      intro l2 pw k W3 hl2 hrec2 hs2 hk _
      obtain ⟨S, h1, h2, h3, h4⟩ := hs2
      have hc3 : ∀ b o, b < wk.heap.size → b ≠ w.heap.size + 1 → W3.cell? ⟨b, o, none⟩ = wk.cell? ⟨b, o, none⟩ := fun b o hb1 hb2 => h3.1.cell (a := ⟨b, o, none⟩) ⟨hb1, hb2⟩
      have b2 := (hc3 w.heap.size 2 (by omega) (by omega)).trans (cell_blk HBBK.out 2 rfl)
      have v0 := (hc3 (w.heap.size + 1 + 1) 0 (by omega) (by omega)).trans (cell_blk HVR.out 0 rfl)
      have f0 := (hc3 Bx 0 (by omega) hgcx).trans (cell_blk HBX.out 0 rfl)
      obtain ⟨ai, ci, hm, hsn, hnx, hints⟩ := HRN.out k hk
      have m0 : W3.cell? ⟨bnn, onn + k * 3, none⟩ = some (.int .i64 (B.D.M k)) := (hc3 bnn _ (by omega) (by omega)).trans ((HBKW.out.cell (p := ⟨bnn, onn + k * 3, none⟩) (by show bnn < _; omega)).trans hm)
      have hki : (k : Int) < (B.D.n : Int) := by omega
      have HS1 := Lib.hid h1
      have HR2 := Lib.hid h2
      have HK3 := Lib.hid h3
      have HB4 := Lib.hid h4
      have hsz3 := h3.2
      clear h1 h2 h3 h4 hm hsn hnx hints
      by_cases hM : B.D.M k = -1
      · have hme : (B.D.M k != -1) = false := by simp [hM]
        have HM := Lib.hid hM
        clear hM hc3
        gi_wp2
        exact ⟨KeepsFrom.refl _ _, Kept.refl _ _, S, fun i hi => ⟨(HS1.out i hi).1, fun v => ((HS1.out i hi).2 v).trans ⟨fun h => by
            rcases h with h | ⟨h, h'⟩
            · exact .inl h
            · exact .inr ⟨List.mem_append.2 (.inl h), h'⟩, fun h => by
            rcases h with h | ⟨h, h', h''⟩
            · exact .inl h
            · rcases List.mem_append.1 h with h | h
              · exact .inr ⟨h, h', h''⟩
              · rw [List.mem_singleton.1 h] at h'; exact absurd HM.out h'⟩⟩, HR2.out, HK3.out, HB4.out⟩
      · have hme : (B.D.M k != -1) = true := by simp [hM]
        have HM := Lib.hid hM
        have a1' := (HG.out.D.ask k hk hM).1
        have a2' := (HG.out.D.ask k hk hM).2.1
        obtain ⟨m, hmm⟩ : ∃ m : Nat, B.D.M k = m := ⟨(B.D.M k).toNat, by omega⟩
        have HMM := Lib.hid hmm
        rw [hmm] at m0 hme a2'
        have hmi : (m : Int) < (B.nv : Int) := by omega
        have hmn : m < B.nv := by omega
        obtain ⟨x0, xV⟩ := HGX.out.x m hmn
        have xV3 := (HG.out.V m hmn).2
        obtain ⟨t, hxt⟩ : ∃ t : Nat, fx m = t := ⟨(fx m).toNat, (Int.toNat_of_nonneg x0).symm⟩
        have HXT := Lib.hid hxt
        have ht3 : t < 3 := by omega
        have fm := (hc3 fg m (by omega) hgcf).trans (HCF.out m hmn).1
        rw [hxt] at fm
        have rk : W3.cell? ⟨w.heap.size + 1, k, none⟩ = some (.int .u64 (S k : Nat)) := (HR2.out k hk).1
        have rf := (HR2.out k hk).2
        have hSk : S k < 8 := (HS1.out k hk).1
        have HW := Lib.hid (setWith_any (S k) t (by omega) (by omega))
        have hB4s := HB4.out.size
        clear hM hmm hxt a1' x0 xV xV3 hc3
        gi_wp2
        refine region_round (l := l2) (S := fun w' => ∀ b o, b ≠ w.heap.size + 1 → w'.cell? ⟨b, o, none⟩ = W3.cell? ⟨b, o, none⟩) (by kernel_rfl) (by kernel_rfl) (fun b o _ => rfl) (fun hHeld => ?_)
        (refine wpAnyH_take (i := 0) (v := ?_) rfl (by kernel_rfl) (by kernel_rfl) (by kernel_rfl) (fun _ _ _ h => h) (Or.inl ⟨by rfl, ?_⟩) (by assumption) ?_; rotate_left; (focus (intro w hSw; (try dsimp only at hSw); go_simp; (try with_reducible rfl))); (try simp only [List.getElem_toArray, List.getElem_cons_zero, List.getElem_cons_succ, Act.put, List.setIfInBounds_toArray, List.set_cons_zero, List.set_cons_succ])); (refine wpAnyH_take (i := 1) (v := ?_) rfl (by kernel_rfl) (by kernel_rfl) (by kernel_rfl) (fun _ _ _ h => h) (Or.inl ⟨by rfl, ?_⟩) (by assumption) ?_; rotate_left; (focus (intro w hSw; (try dsimp only at hSw); go_simp; (try with_reducible rfl))); (try simp only [List.getElem_toArray, List.getElem_cons_zero, List.getElem_cons_succ, Act.put, List.setIfInBounds_toArray, List.set_cons_zero, List.set_cons_succ])); (refine wpAnyH_take (i := 2) (v := ?_) rfl (by kernel_rfl) (by kernel_rfl) (by kernel_rfl) (fun _ _ _ h => h) (Or.inl ⟨by rfl, ?_⟩) (by assumption) ?_; rotate_left; (focus (intro w hSw; (try dsimp only at hSw); go_simp; (try with_reducible rfl))); (try simp only [List.getElem_toArray, List.getElem_cons_zero, List.getElem_cons_succ, Act.put, List.setIfInBounds_toArray, List.set_cons_zero, List.set_cons_succ])); (refine wpAnyH_take (i := 3) (v := ?_) rfl (by kernel_rfl) (by kernel_rfl) (by kernel_rfl) (fun _ _ _ h => h) (Or.inl ⟨by rfl, ?_⟩) (by assumption) ?_; rotate_left; (focus (intro w hSw; (try dsimp only at hSw); go_simp; (try with_reducible rfl))); (try simp only [List.getElem_toArray, List.getElem_cons_zero, List.getElem_cons_succ, Act.put, List.setIfInBounds_toArray, List.set_cons_zero, List.set_cons_succ])); (refine wpAnyH_take (i := 4) (v := ?_) rfl (by kernel_rfl) (by kernel_rfl) (by kernel_rfl) (fun _ _ _ h => h) (Or.inl ⟨by rfl, ?_⟩) (by assumption) ?_; rotate_left; (focus (intro w hSw; (try dsimp only at hSw); go_simp; (try with_reducible rfl))); (try simp only [List.getElem_toArray, List.getElem_cons_zero, List.getElem_cons_succ, Act.put, List.setIfInBounds_toArray, List.set_cons_zero, List.set_cons_succ]))
        (refine wpAnyH_take (i := 6) (v := ?_) rfl (by kernel_rfl) (by kernel_rfl) (by kernel_rfl) (fun _ _ _ h => h) (Or.inl ⟨by rfl, ?_⟩) (by assumption) ?_; rotate_left; (focus (intro w hSw; (try dsimp only at hSw); go_simp; (try with_reducible rfl))); (try simp only [List.getElem_toArray, List.getElem_cons_zero, List.getElem_cons_succ, Act.put, List.setIfInBounds_toArray, List.set_cons_zero, List.set_cons_succ])); (refine wpAnyH_take (i := 7) (v := ?_) rfl (by kernel_rfl) (by kernel_rfl) (by kernel_rfl) (fun _ _ _ h => h) (Or.inl ⟨by rfl, ?_⟩) (by assumption) ?_; rotate_left; (focus (intro w hSw; (try dsimp only at hSw); go_simp; (try with_reducible rfl))); (try simp only [List.getElem_toArray, List.getElem_cons_zero, List.getElem_cons_succ, Act.put, List.setIfInBounds_toArray, List.set_cons_zero, List.set_cons_succ])); (refine wpAnyH_take (i := 8) (v := ?_) rfl (by kernel_rfl) (by kernel_rfl) (by kernel_rfl) (fun _ _ _ h => h) (Or.inl ⟨by rfl, ?_⟩) (by assumption) ?_; rotate_left; (focus (intro w hSw; (try dsimp only at hSw); go_simp; (try with_reducible rfl))); (try simp only [List.getElem_toArray, List.getElem_cons_zero, List.getElem_cons_succ, Act.put, List.setIfInBounds_toArray, List.set_cons_zero, List.set_cons_succ])); (refine wpAnyH_take (i := 9) (v := ?_) rfl (by kernel_rfl) (by kernel_rfl) (by kernel_rfl) (fun _ _ _ h => h) (Or.inl ⟨by rfl, ?_⟩) (by assumption) ?_; rotate_left; (focus (intro w hSw; (try dsimp only at hSw); go_simp; (try with_reducible rfl))); (try simp only [List.getElem_toArray, List.getElem_cons_zero, List.getElem_cons_succ, Act.put, List.setIfInBounds_toArray, List.set_cons_zero, List.set_cons_succ]))
        refine wpAnyH_ready (rs := [5]) (by kernel_rfl) (by simp) ?_; refine AllReadyH.cons rfl (fun K hK => ?_) AllReadyH.nil; go_simp
        refine hK.out _ _ (fun b o _ => rfl) (fun hHeld => ?_); clear hK K; (try simp only [List.getElem_toArray, List.getElem_cons_zero, List.getElem_cons_succ, Act.put, List.setIfInBounds_toArray, List.set_cons_zero, List.set_cons_succ])
        refine wpAnyH_ready (rs := [10]) (by kernel_rfl) (by simp) ?_; refine AllReadyH.cons rfl (fun K hK => ?_) AllReadyH.nil; go_simp
        go_at_call 110
        refine (HW.out _).mono ?_
        rintro e wq ⟨rfl, hwq⟩
        rw [hwq]
        clear hwq wq
        refine hK.out _ _ (fun b o _ => rfl) (fun hHeld => ?_); clear hK K; (try simp only [List.getElem_toArray, List.getElem_cons_zero, List.getElem_cons_succ, Act.put, List.setIfInBounds_toArray, List.set_cons_zero, List.set_cons_succ])
        (refine wpAnyH_take (i := 11) (v := ?_) rfl (by kernel_rfl) (by kernel_rfl) (by kernel_rfl) (fun _ _ _ h => h) (Or.inl ⟨by rfl, ?_⟩) (by assumption) ?_; rotate_left; (focus (intro w hSw; (try dsimp only at hSw); go_simp; (try with_reducible rfl))); (try simp only [List.getElem_toArray, List.getElem_cons_zero, List.getElem_cons_succ, Act.put, List.setIfInBounds_toArray, List.set_cons_zero, List.set_cons_succ]))
        refine wpAnyH_ready (rs := [12]) (by kernel_rfl) (by simp) ?_; refine AllReadyH.cons rfl (fun K hK => ?_) AllReadyH.nil; go_simp
        refine hK.out _ _ (fun b o hb => ?_) (fun hHeld => ?_)
        · exact World.cell?_setCell_far _ _ _ _ (by show w.heap.size + 1 ≠ b; omega)
        clear hK K; (try simp only [List.getElem_toArray, List.getElem_cons_zero, List.getElem_cons_succ, Act.put, List.setIfInBounds_toArray, List.set_cons_zero, List.set_cons_succ])
        refine wpAnyH_done (by kernel_rfl) ?_ _; clear hHeld
        unfold onlyN
        gi_wp2
        have et : (fx (B.D.M k).toNat).toNat = t := by rw [HMM.out, Int.toNat_natCast, HXT.out, Int.toNat_natCast]
        refine ⟨((KeepsOthers.setCell _ _ _).trans (KeepsOthers.drew _)).from _, fun j hj => Below.heap_setCell _ _ _ _ hj.2, fun i => if i = k then put1 (S k) t else S i, fun i hi => ?_, ?_,
          ⟨HK3.out.1.trans fun j hj => Below.heap_setCell _ _ _ _ hj.2, by simpa [World.setCell] using HK3.out.2⟩, (HB4.out.setCell (p := ⟨w.heap.size + 1, k, none⟩) (Nat.le_refl _) _).drew⟩
        · by_cases e : i = k
          · subst e
            simp only [if_true]
            refine ⟨put1_lt8 hSk ht3, fun v => ?_⟩
            rw [put1_bit, Bool.or_eq_true, decide_eq_true_eq, (HS1.out i hi).2 v]
            constructor
            · rintro ((h | ⟨h, h'⟩) | h)
              · exact .inl h
              · exact .inr ⟨List.mem_append.2 (.inl h), h'⟩
              · exact .inr ⟨List.mem_append.2 (.inr (List.mem_singleton.2 rfl)), HM.out, by rw [et]; exact h⟩
            · rintro (h | ⟨h, h', h''⟩)
              · exact .inl (.inl h)
              · exact .inr (by rw [← et]; exact h'')
          · simp only [e, if_false]
            refine ⟨(HS1.out i hi).1, fun v => ((HS1.out i hi).2 v).trans ⟨fun h => ?_, fun h => ?_⟩⟩
            · rcases h with h | ⟨h, h'⟩
              · exact .inl h
              · exact .inr ⟨List.mem_append.2 (.inl h), h'⟩
            · rcases h with h | ⟨h, h'⟩
              · exact .inl h
              · rcases List.mem_append.1 h with h | h
                · exact .inr ⟨h, h'⟩
                · exact absurd (List.mem_singleton.1 h) e
        · have hr := HR2.out.set (k := k) (.int .u64 (put1 (S k) t : Nat))
          have ef : updV (u64F S) k (.int .u64 (put1 (S k) t : Nat)) = u64F (fun i => if i = k then put1 (S k) t else S i) := by
            funext i
            by_cases e : i = k
            · subst e; simp [updV, u64F]
            · simp [updV, u64F, e]
          rw [ef] at hr
          exact hr
    case done2 =>
      rintro ys W' rfl ⟨S, h1, h2, h3, h4⟩
      gi_wp2
      have hng : ∀ (j : Nat) (o : Obj), W.heap[j]? = some o → o.isCells = false → j ≠ w.heap.size + 1 := fun j o hj ho e => by
        obtain ⟨ob, hob, hc⟩ := cells_of_cell (HROW0.out 0 (by omega)).1
        have hob' : W.heap[w.heap.size + 1]? = some ob := hob
        rw [e, hob'] at hj; cases hj; rw [ho] at hc; cases hc
      refine ⟨⟨Nat.le_trans hszk' h3.2, fun j o _ hj ho => (h3.1 j ⟨Nat.lt_of_lt_of_le (heap_lt hj) hszk', hng j o hj ho⟩).trans ((HKW.out j (heap_lt hj)).trans hj)⟩,
        ⟨Nat.le_trans hszk' h3.2, fun j o hj _ he => (h3.1 j ⟨Nat.lt_of_lt_of_le (heap_lt hj) hszk', he⟩).trans ((HKW.out j (heap_lt hj)).trans hj)⟩,
        S, fun i hi => ⟨(h1 i hi).1, fun v => ((h1 i hi).2 v).trans ?_⟩, h2, (h3.1 _ ⟨by omega, by omega⟩).trans HVR.out, h4.size, h4⟩
      constructor
      · rintro (⟨y, hy, hc⟩ | hc)
        · exact ⟨y, List.mem_append.2 (.inl hy), hc⟩
        · exact ⟨_, List.mem_append.2 (.inr (List.mem_singleton.2 rfl)), hc⟩
      · rintro ⟨y, hy, hc⟩
        rcases List.mem_append.1 hy with h | h
        · exact .inl ⟨y, h, hc⟩
        · rw [List.mem_singleton.1 h] at hc; exact .inr hc
    case stop2 =>
      rintro c pre W _ h
      exact h.elim
  case done =>
    rintro D' ys W hD hys ⟨S, h1, h2, h3, h4, h5⟩ hK
    have c0 := cell_blk h3 0 rfl
    have h3' := h3
    have HPI : Hid (∀ i, i < B.D.n → idleP B i = decide (many (S i) = 1)) := fun i hi => by
      unfold idleP many
      congr 2
      refine cnt_congr' fun v _ => ?_
      rw [Bool.eq_iff_iff, hasV_iff HG.out hys i v hi, (h1 i hi).2 v]; rfl
    have HS1 := Lib.hid h1
    have HRW := Lib.hid h2
    have HKD := Lib.hid hK
    have HB5 : Hid (Below w.heap.size w W) := HBW.out.trans (h5.mono (by have := HBW.out.size; omega))
    have hszW : w.heap.size + 1 + 1 < W.heap.size := heap_lt h3
    clear h1 h2 h3 hK
    gi_wp2
    gi_loopw [7, 45] (fun t i wr => ∃ k : Nat, k ≤ B.D.n ∧ i = .int .i64 k ∧ Hid (OwnI W.heap.size wr t (sel (idleP B) k)) ∧ Hid (Below W.heap.size W wr)) (fun _ i _ => B.D.n - (intOf i).toNat)
    case atStart => exact ⟨0, Nat.zero_le _, rfl, own_nil _ _, Below.refl _ _⟩
    case round =>
      obtain ⟨k, hk, rfl, ho, HBr⟩ := hrel
      have hszr : w.heap.size + 1 + 1 < wr.heap.size := Nat.lt_of_lt_of_le hszW HBr.out.size
      have c0 := cell_blk ((HBr.out.block _ (by omega)).trans h3') 0 rfl
      by_cases hkn : k < B.D.n
      · have rk : wr.cell? ⟨w.heap.size + 1, k, none⟩ = some (.int .u64 (S k : Nat)) := ((HRW.out.kept (HBr.out.block _ (by omega))) k hkn).1
        have hSk : S k < 8 := (HS1.out k hkn).1
        have hsl := sel_len (idleP B) k
        have HMY := Lib.hid (setMany_any (S k) (by omega) wr)
        have HPK := Lib.hid (HPI.out k hkn)
        have hown0 := own_mono ho.out (Nat.le_refl _)
        have hk1000 : B.D.n ≤ 1000 := by omega
        cases hp : idleP B k with
        | true =>
          have HP : Hid (sel (idleP B) (k + 1) = sel (idleP B) k ++ [(k : Int)]) := sel_hit hp
          have hm : many (S k) = 1 := by have := HPK.out; rw [hp] at this; exact (of_decide_eq_true this.symm)
          clear hp HPK HPI HSEQ
          generalize sel (idleP B) k = li at *
          gi_wp2_with (first
            | (refine ⟨trivial, ?_⟩; gi_at_call 111; refine (callsIn_wide.2 HMY.out).mono ?_; rintro e w' ⟨rfl, hw3⟩; rw [hw3]; clear hw3 w')
            | (gi_at_builtin; refine wpListIn_append_own _ rfl _ _ 22 rfl W.heap.size 3 i0 (.int .i64 0) 1 8 Try.underlying22 hi hz0 hz1 hz2 rfl (by decide) _ _ _ rfl (hown0.alloc _) ⟨wr.heap.size, 0, none⟩ 1 1 [.int .i64 k] rfl rfl (cell_one_new _ _ _) (by simp [Value.oneCell']) (by unfold maxLen; omega) (by omega) (by simp; have := HBr.out.size; omega) ?_; intro v' w1 hown' hgrow _))
          exact ⟨⟨k + 1, by omega, by go_num, by rw [HP.out]; unfold Hid OwnI; rw [List.length_append, List.map_append]; exact hown', (HBr.out.alloc HBr.out.size _).grown hgrow (by simp; have := HBr.out.size; omega) (fun j e => (ho.out.lt j e).1)⟩, by simp [intOf]; omega⟩
        | false =>
          have HP : Hid (sel (idleP B) (k + 1) = sel (idleP B) k) := sel_miss hp
          have hm : (many (S k) == 1) = false := by have := HPK.out; rw [hp] at this; simpa using this.symm
          clear hp HPK HPI HSEQ
          generalize sel (idleP B) k = li at *
          gi_wp2_with (first
            | (refine ⟨trivial, ?_⟩; gi_at_call 111; refine (callsIn_wide.2 HMY.out).mono ?_; rintro e w' ⟨rfl, hw3⟩; rw [hw3]; clear hw3 w'))
          exact ⟨⟨k + 1, by omega, by go_num, by rw [HP.out]; exact ho, HBr⟩, by simp [intOf]; omega⟩
      · gi_wp2
        have hK' := (HBr.out.block _ (heap_lt HKD.out)).trans HKD.out
        have hkn' : k = B.D.n := by omega
        subst hkn'
        refine ⟨by simp, .inl ⟨_, _, rfl, run_takeDeferred hK', ?_⟩⟩
        have hown := own_mono (base' := w.heap.size) ho.out (by omega)
        exact ⟨_, results_tmp rfl _ _ _, u7, rfl, ownsRow_putObj hown _ hK' rfl, (fin HB5.out HBr.out).trans (belowK_b (w := w) (Nat.le_refl _) wr D' _ _ (by omega) hK' rfl rfl)⟩
  case stop =>
    rintro D c pre W hD _ h _
    exact h.elim

end Go.Proofs.Ytbieglmpkljjjaa

namespace Go.Proofs.Ytbieglmpkljjjaa
open Go.RowKit

set_option maxHeartbeats 1600000 in
theorem kIdle_any (N : Nat) (v : Value) (B : KB) (w : World) (h : BookAt N w v B) :
    Calls Try.prog 27 #[v] w (GivesIE w.heap.size w (eIdle B).1 (eIdle B).2) := by
  have h' := h
  obtain ⟨_, a1, z1, a2, z2, a3, z3, rfl, _⟩ := h'
  obtain ⟨ws, hws, HB, hsz, hblk⟩ := box1 w (.cells #[.slice a1 B.nv z1, .slice a2 B.ns z2, .slice a3 B.D.n z3] 26)
  have q0 := cell_blk hblk 0 rfl
  have q1 := cell_blk hblk 1 rfl
  have q2 := cell_blk hblk 2 rfl
  have HBK := Lib.hid (h.go HB.out)
  have HB0 : Hid (Below ws.heap.size ws ws) := Below.refl _ _
  have HNS : Hid (N ≤ ws.heap.size) := HBK.out.1
  have hlens := h.lens
  obtain ⟨hlv, hls, hln⟩ := hlens
  clear hblk h
  cases hv : okKB B with
  | false =>
    have HA : Hid (chk B = 20) := chk_no hv
    have HE : Hid (eIdle B = ([], 20)) := by unfold Hid eIdle; rw [hv]; rfl
    clear hv
    go_enter Try.func27, Try.ntmps27
    go_wp2_with (go_at_call 46; refine (kCheck_any N _ B _ (HBK.out.go HB0.out)).mono ?_; rintro e w1 ⟨rfl, hb1⟩; rw [HA.out]; (try clear c0); have HB1 := Lib.hid (bel HB0.out hb1); have c1 := (old_of HB1.out).1; clear hb1)
    go_ret2
    exact ⟨.slice none 0 0, by rw [HE.out]; rfl, by rw [HE.out]; exact own_nil _ _, fin HB.out HB1.out⟩
  | true =>
    have HA : Hid (chk B = 0) := chk_yes hv
    have HE : Hid (eIdle B = (sel (idleP B) B.D.n, 0)) := by unfold Hid eIdle; rw [hv]; rfl
    have HG := Lib.hid (goodB hv)
    clear hv
    go_enter Try.func27, Try.ntmps27
    go_wp2_with (first
      | (go_at_call 46; refine (kCheck_any N _ B _ (HBK.out.go HB0.out)).mono ?_; rintro e w1 ⟨rfl, hb1⟩; rw [HA.out]; (try clear c0); have HB1 := Lib.hid (bel HB0.out hb1); have c1 := (old_of HB1.out).1; clear hb1)
      | (go_at_call 75; refine (idle_any N _ B _ (HBK.out.go HB1.out) HG.out).mono ?_; rintro e w2 ⟨v2, rfl, ho, hb2⟩; have HO := Lib.hid ho; clear ho; (try clear c1); have HB2 := Lib.hid (bel HB1.out hb2); have c2 := (old_of HB2.out).1; clear hb2))
    go_ret2
    exact ⟨v2, by rw [HE.out]; rfl, by rw [HE.out]; exact own_mono HO.out (Nat.le_trans HB.out.size HB1.out.size), fin HB.out HB2.out⟩

end Go.Proofs.Ytbieglmpkljjjaa
