/-
  Search: the search of package keys over sets of sorts.
-/
import Derived.Test.YtbieglmpkljjjaaSets
import Derived.Maps.OwnSet
import Derived.Laws.EntriesVeiled
import Derived.WalkArith
namespace Go.Proofs.Ytbieglmpkljjjaa
open Go.RowKit Go.Maps

/-- the value of a search -/
def seaV (nv bk b k : Nat) : Value := .agg #[.int .i64 nv, .func (.func 119) #[] #[], .func (.func 120) #[] #[.pointer (some ⟨bk, 0, none⟩)], .func (.func k) #[] #[], .map (some b)]

set_option maxRecDepth 100000 in
set_option maxHeartbeats 1600000 in
theorem searchNames_any (k nv ns nn : Nat) (a1 a2 a3 : Option Addr) (z1 z2 z3 : Nat) (w : World) (h63 : nv ≤ 5) :
    Calls Try.prog 81 #[.agg #[.slice a1 nv z1, .slice a2 ns z2, .slice a3 nn z3], .func (.func k) #[] #[]] w fun e w' => e = .returned (seaV nv w.heap.size (w.heap.size + 2) k) ∧ w'.heap[w.heap.size]? = some (.cells #[.slice a1 nv z1, .slice a2 ns z2, .slice a3 nn z3] 26) ∧ w'.heap[w.heap.size + 2]? = some (.map #[] 0) ∧ Below w.heap.size w w' := by
  have hmm : ∀ w, (Instr.makeMap 99 none).run Try.prog w = .ok (.map (some w.heap.size)) (w.alloc (.map #[] 0)) := fun w => rfl
  go_enter Try.func81, Try.ntmps81
  go_wp2
  refine bodyPost_ret (v := seaV nv w.heap.size (w.heap.size + 2) k) ?_ rfl ?_
  · simp [results, Try.results81, go_sem, seaV]
  refine ⟨rfl, allocs_at [_, _, _] w 0 _ rfl, allocs_at [_, _, _] w 2 _ rfl, allocs_below [_, _, _] w⟩

theorem done_any (s : Nat) (hs : s < 256) (w : World) :
    Calls Try.prog 119 #[.int .u64 s] w fun e w' => e = .returned (.bool (decide ((mems s).length ≤ 1))) ∧ w' = w := by
  have H := Lib.hid (setMany_any s hs w)
  have HM := Lib.hid (many_mems s)
  go_enter Try.func119, Try.ntmps119
  go_wp2_with (go_at_call 111; refine H.out.mono ?_; rintro e wq ⟨rfl, hwq⟩; rw [hwq]; clear hwq wq)
  go_ret
  refine ⟨ret_bool ?_, rfl⟩
  rw [HM.out, Bool.eq_iff_iff]; simp; omega

set_option maxRecDepth 100000 in
theorem parts_any (N : Nat) (bk : Nat) (B : KB) (a1 a2 a3 : Option Addr) (z1 z2 z3 : Nat) (s m : Nat) (w : World) (hbk : w.heap[bk]? = some (.cells #[.slice a1 B.nv z1, .slice a2 B.ns z2, .slice a3 B.D.n z3] 26)) (h : BookAt N w (.agg #[.slice a1 B.nv z1, .slice a2 B.ns z2, .slice a3 B.D.n z3]) B) (hG : GoodB B) (hs : SetOk B s) (hm : m < B.nv) :
    Calls Try.prog 120 #[.int .u64 s, .int .i64 m, .pointer (some ⟨bk, 0, none⟩)] w fun e w' => ∃ v', e = .returned v' ∧ SetsIn w.heap.size w' v' (B.V m).toNat (fun y => partF B s m y) ∧ Below w.heap.size w w' := by
  have b0 := cell_blk hbk 0 rfl
  have b1 := cell_blk hbk 1 rfl
  have b2 := cell_blk hbk 2 rfl
  have H := Lib.hid (partSorts_any N _ B s m w h hG hs.lt hs.mem hm)
  clear h
  go_enter Try.func120, Try.ntmps120
  go_wp2_with (go_at_call 121; refine H.out.mono ?_; rintro e w1 ⟨v1, rfl, ho, hb⟩)
  go_ret
  exact ⟨_, rfl, ho, hb⟩

theorem lawSet : Maps.Keyed Try.prog 104 := int_keyed (q := .u64) Try.underlying104
theorem zeroInt (w : World) : (zeroValue 3).run Try.prog w = .ok (.int .i64 0) w := by kernel_rfl

def setKey (s : Nat) : Lit := .int .u64 s
theorem setKey_of {s : Nat} (hs : s < 256) : keyOf Try.prog 104 (.int .u64 s) = some (setKey s) := keyOf_int_mk Try.underlying104 (by
  have : ∀ t : Fin 256, (Lit.int .u64 (t.val : Int)).wf = true := by decide +kernel
  exact this ⟨s, hs⟩)

/-- the map b holds what has been found, in at most n turns -/
def FoundAt (B : KB) (mean : Bool) (b n : Nat) (w : World) : Prop := ∃ D : DataW Unit, w.ownsMap Try.prog 104 (plainElem Try.prog 3) b n D ∧ ∀ s, SetOk B s → has D (setKey s) = true → D.atKey (setKey s) (.lit (.int .i64 0)) = .lit (.int .i64 (costK B mean s))
theorem FoundAt.mono {B : KB} {mean : Bool} {b n n' : Nat} {w : World} (h : FoundAt B mean b n w) (hn : n ≤ n') : FoundAt B mean b n' w := by
  obtain ⟨D, h1, h2⟩ := h; exact ⟨D, h1.mono hn, h2⟩
theorem FoundAt.kept {B : KB} {mean : Bool} {b n : Nat} {w w' : World} (h : FoundAt B mean b n w) {row : Option Nat} (hg : w.grownBy w' row) (hne : some b ≠ row) : FoundAt B mean b n w' := by
  obtain ⟨D, h1, h2⟩ := h; exact ⟨D, h1.kept hg hne, h2⟩
theorem FoundAt.lt {B : KB} {mean : Bool} {b n : Nat} {w : World} (h : FoundAt B mean b n w) : b < w.heap.size := by
  obtain ⟨D, h1, _⟩ := h; exact h1.lt
theorem grown_of_below {w w' : World} {b : Nat} (h : Below w.heap.size w w') : w.grownBy w' (some b) := ⟨h.os, h.tape, h.output, h.size, fun k hk _ => h.block k hk⟩
theorem grown_trans {w w' w'' : World} {b : Nat} (h : w.grownBy w' (some b)) (k : w'.grownBy w'' (some b)) : w.grownBy w'' (some b) :=
  ⟨k.os.trans h.os, k.tape.trans h.tape, k.output.trans h.output, Nat.le_trans h.size k.size, fun i hi hne => (k.block i (Nat.lt_of_lt_of_le hi h.size) hne).trans (h.block i hi hne)⟩

/-- where a search reads its book -/
structure SEnv (B : KB) (bk b N : Nat) (w : World) : Prop where
  book : ∃ a1 z1 a2 z2 a3 z3, w.heap[bk]? = some (.cells #[.slice a1 B.nv z1, .slice a2 B.ns z2, .slice a3 B.D.n z3] 26) ∧ BookAt N w (.agg #[.slice a1 B.nv z1, .slice a2 B.ns z2, .slice a3 B.D.n z3]) B
  ne : bk ≠ b
  le : N ≤ b
theorem SEnv.go {B : KB} {bk b N : Nat} {w w' : World} (h : SEnv B bk b N w) (k : w.grownBy w' (some b)) : SEnv B bk b N w' := by
  obtain ⟨⟨a1, z1, a2, z2, a3, z3, h1, h2⟩, h3, h4⟩ := h
  have hbl : Below N w w' := ⟨k.os, k.tape, k.output, k.size, fun i hi => k.block i (Nat.lt_of_lt_of_le hi h2.1) (by
    intro e; injection e with e; omega)⟩
  exact ⟨⟨a1, z1, a2, z2, a3, z3, (k.block bk (heap_lt h1) (by simpa using h3)).trans h1, h2.mono hbl (Nat.le_refl _) (Nat.le_trans h2.1 k.size)⟩, h3, h4⟩

/-- what least says of the sets of at most f sorts -/
def SaysS (B : KB) (mean : Bool) (bk b N kc f : Nat) : Prop := ∀ (s n : Nat) (w : World), SetOk B s → (mems s).length ≤ f → SEnv B bk b N w → FoundAt B mean b n w → n + 16 ^ f ≤ 1000000000000 →
    Calls Try.prog 83 #[seaV B.nv bk b kc, .int .u64 s] w fun e w' => e = .returned (.int .i64 (costK B mean s)) ∧ FoundAt B mean b (n + 16 ^ f) w' ∧ w.grownBy w' (some b)
/-- what question says -/
def SaysQ (B : KB) (mean : Bool) (bk b N kc f : Nat) : Prop := ∀ (s n : Nat) (w : World), SetOk B s → ¬ (mems s).length ≤ 1 → (mems s).length ≤ f + 1 → SEnv B bk b N w → FoundAt B mean b n w → n + 15 * 16 ^ f ≤ 1000000000000 →
    Calls Try.prog 123 #[seaV B.nv bk b kc, .int .u64 s] w fun e w' => ∃ mk c, e = .returned (.tuple #[.int .i64 mk, .int .i64 c]) ∧ AskK B mean s B.nv mk c ∧ FoundAt B mean b (n + 15 * 16 ^ f) w' ∧ w.grownBy w' (some b)

end Go.Proofs.Ytbieglmpkljjjaa

namespace Go.Proofs.Ytbieglmpkljjjaa
open Go.RowKit Go.Maps

set_option maxRecDepth 100000 in
set_option maxHeartbeats 1600000 in
theorem least_hit (B : KB) (mean : Bool) (bk b kc : Nat) (D : DataW Unit) (s n : Nat) (w : World) (hs : SetOk B s) (ho : w.ownsMap Try.prog 104 (plainElem Try.prog 3) b n D) (hh : has D (setKey s) = true) (hD : D.atKey (setKey s) (.lit (.int .i64 0)) = .lit (.int .i64 (costK B mean s))) :
    Calls Try.prog 83 #[seaV B.nv bk b kc, .int .u64 s] w fun e w' => e = .returned (.int .i64 (costK B mean s)) ∧ Below w.heap.size w w' := by
  have hkey := setKey_of hs.lt
  unfold seaV
  go_enter Try.func83, Try.ntmps83
  go_wp2_with (at_lookup; refine wpList_lookup_own_ok_int _ rfl _ _ 99 rfl 104 3 .i64 lawSet Try.underlying99 Try.underlying3 (zeroInt _) b n D rfl (ho.alloc _) _ _ rfl hkey ?_; intro c hat hwc; rw [hh])
  go_ret
  refine ⟨?_, below_alloc (Nat.le_refl _) _⟩
  have h9 := hD.symm.trans hat
  injection h9 with h9
  injection h9 with _ h9
  rw [h9]; rfl

/-- what is kept once it is found -/
theorem put_found {B : KB} {mean : Bool} {D : DataW Unit} (hm : IsMap D) {s : Nat} (hs : s < 256) (hD : ∀ s, SetOk B s → has D (setKey s) = true → D.atKey (setKey s) (.lit (.int .i64 0)) = .lit (.int .i64 (costK B mean s))) :
    ∀ t, SetOk B t → has (D.put (setKey s) (.lit (.int .i64 (costK B mean s)))) (setKey t) = true → (D.put (setKey s) (.lit (.int .i64 (costK B mean s)))).atKey (setKey t) (.lit (.int .i64 0)) = .lit (.int .i64 (costK B mean t)) := by
  intro t ht hh
  by_cases e : t = s
  · subst e
    exact atKey_put_same hm (by simp [setKey, WideAt.IsKeyLit]) _ _
  · have hne : setKey t ≠ setKey s := by
      intro h9; injection h9 with _ h9; exact e (by omega)
    rw [has_put_other hne] at hh
    rw [atKey_put_other hne]
    exact hD t ht hh

theorem wf_small {x : Int} (h1 : -1 ≤ x) (h2 : x ≤ 1048576) : (Lit.int .i64 x).wf = true := WalkArith.wf_i64 ⟨by omega, by omega⟩
theorem costK_wf {B : KB} (hG : GoodB B) (mean : Bool) (s : Nat) : (Lit.int .i64 (costK B mean s)).wf = true := by
  have h1 := leastL_bd B hG.V mean 8 (mems s) (mems_len s)
  have h2 := pow_bd (f := 8) (by omega)
  have h3 : -1 ≤ costK B mean s ∧ costK B mean s ≤ 1048576 := by unfold costK; omega
  exact wf_small (by omega) (by omega)

set_option maxRecDepth 100000 in
set_option maxHeartbeats 1600000 in
theorem least_small2 (B : KB) (hG : GoodB B) (mean : Bool) (bk b kc : Nat) (D : DataW Unit) (s n : Nat) (w : World) (hs : SetOk B s) (hn : n ≤ 1000000000000) (ho : w.ownsMap Try.prog 104 (plainElem Try.prog 3) b n D) (hh : has D (setKey s) = false) (h1 : (mems s).length ≤ 1) (hD : ∀ s, SetOk B s → has D (setKey s) = true → D.atKey (setKey s) (.lit (.int .i64 0)) = .lit (.int .i64 (costK B mean s))) :
    Calls Try.prog 83 #[seaV B.nv bk b kc, .int .u64 s] w fun e w' => e = .returned (.int .i64 (costK B mean s)) ∧ FoundAt B mean b (n + 1) w' ∧ w.grownBy w' (some b) := by
  have hkey := setKey_of hs.lt
  have HD := Lib.hid (done_any s hs.lt)
  have hdd : decide ((mems s).length ≤ 1) = true := decide_eq_true h1
  have hc0 := costK_small (B := B) (mean := mean) h1
  have HP := Lib.hid (put_found (mean := mean) ho.isMap hs.lt hD)
  have HW := Lib.hid (costK_wf hG mean s)
  rw [hc0] at HW HP
  rw [hc0]
  unfold seaV
  go_enter Try.func83, Try.ntmps83
  go_wp2_with (first
    | (at_lookup; refine wpList_lookup_own_ok_int _ rfl _ _ 99 rfl 104 3 .i64 lawSet Try.underlying99 Try.underlying3 (zeroInt _) b n D rfl (ho.alloc _) _ _ rfl hkey ?_; intro c hat hwc; rw [hh])
    | (go_at_call 119; refine (HD.out _).mono ?_; rw [hdd]; rintro e wq ⟨rfl, hwq⟩; rw [hwq]; clear hwq wq)
    | (at_mapUpdate; refine wpList_mapUpdate_in _ rfl _ _ _ 99 rfl 104 3 lawSet Try.underlying99 _ b n D rfl (ho.alloc _) (by unfold maxLen; omega) _ _ _ rfl rfl hkey _ [] (plainElem_int Try.underlying3 HW.out) ?_; intro w2 hown2 hturn))
  go_ret
  exact ⟨rfl, ⟨_, hown2, HP.out⟩, grown_trans (World.grownBy_alloc _ _ _) hturn.grown⟩

set_option maxRecDepth 100000 in
set_option maxHeartbeats 1600000 in
theorem least_big (B : KB) (hG : GoodB B) (mean : Bool) (bk b N kc f : Nat) (hq : SaysQ B mean bk b N kc f) (D : DataW Unit) (s n : Nat) (w : World) (hs : SetOk B s) (hn : n + 15 * 16 ^ f + 1 ≤ 1000000000000) (henv : SEnv B bk b N w) (ho : w.ownsMap Try.prog 104 (plainElem Try.prog 3) b n D) (hh : has D (setKey s) = false) (h1 : ¬ (mems s).length ≤ 1) (hf : (mems s).length ≤ f + 1) (hD : ∀ s, SetOk B s → has D (setKey s) = true → D.atKey (setKey s) (.lit (.int .i64 0)) = .lit (.int .i64 (costK B mean s))) :
    Calls Try.prog 83 #[seaV B.nv bk b kc, .int .u64 s] w fun e w' => e = .returned (.int .i64 (costK B mean s)) ∧ FoundAt B mean b (n + 15 * 16 ^ f + 1) w' ∧ w.grownBy w' (some b) := by
  have hkey := setKey_of hs.lt
  have HD := Lib.hid (done_any s hs.lt)
  have hdd : decide ((mems s).length ≤ 1) = false := decide_eq_false h1
  have HW := Lib.hid (costK_wf hG mean s)
  obtain ⟨wb, hwb, HBb, hszb, hblkb⟩ := box1 w (.cells #[.int .i64 B.nv, .func (.func 119) #[] #[], .func (.func 120) #[] #[.pointer (some ⟨bk, 0, none⟩)], .func (.func kc) #[] #[], .map (some b)] 101)
  have hgb : w.grownBy wb (some b) := grown_of_below HBb.out
  have hob : wb.ownsMap Try.prog 104 (plainElem Try.prog 3) b n D := ho.kept (row := none) ⟨HBb.out.os, HBb.out.tape, HBb.out.output, HBb.out.size, fun k hk _ => HBb.out.block k hk⟩ (by simp)
  have hbw : b < w.heap.size := ho.lt
  have hb2 : w.heap.size ≠ b := by omega
  have s0 := cell_blk hblkb 0 rfl
  have s1 := cell_blk hblkb 1 rfl
  have s2 := cell_blk hblkb 2 rfl
  have s3 := cell_blk hblkb 3 rfl
  have s4 := cell_blk hblkb 4 rfl
  have HQ := Lib.hid (hq s n wb hs h1 hf (henv.go hgb) ⟨D, hob, hD⟩ (by omega))
  have HSL := Lib.hid hs
  clear hq henv ho hblkb
  unfold seaV
  unfold seaV at HQ
  go_enter Try.func83, Try.ntmps83
  go_wp2_with (first
    | (at_lookup; (try rw [hwb]); refine wpList_lookup_own_ok_int _ rfl _ _ 99 rfl 104 3 .i64 lawSet Try.underlying99 Try.underlying3 (zeroInt _) b n D rfl hob _ _ rfl hkey ?_; intro c hat hwc; rw [hh])
    | (go_at_call 119; refine (HD.out _).mono ?_; rw [hdd]; rintro e wq ⟨rfl, hwq⟩; rw [hwq]; clear hwq wq)
    | (go_at_call 123; refine HQ.out.mono ?_; rintro e w2 ⟨mk, c2, rfl, hask, ⟨D2, hown2, hD2⟩, hg2⟩; obtain rfl : c2 = costK B mean s := hask.found HSL.out h1; have t4 := (World.cell?_of_block (a := ⟨w.heap.size, 4, none⟩) (hg2.block w.heap.size hszb (by simpa using hb2))).trans s4; have HP := Lib.hid (put_found (mean := mean) hown2.isMap HSL.out.lt hD2); skip)
    | (at_mapUpdate; refine wpList_mapUpdate_in _ rfl _ _ _ 99 rfl 104 3 lawSet Try.underlying99 _ b _ D2 rfl hown2 (by unfold maxLen; omega) _ _ _ rfl rfl hkey _ [] (plainElem_int Try.underlying3 HW.out) ?_; intro w3 hown3 hturn))
  go_ret
  exact ⟨rfl, ⟨_, hown3, HP.out⟩, grown_trans hgb (grown_trans hg2 hturn.grown)⟩

end Go.Proofs.Ytbieglmpkljjjaa

namespace Go.Proofs.Ytbieglmpkljjjaa
open Go.RowKit Go.Maps

theorem grown_cell {w w' : World} {b k : Nat} (hg : w.grownBy w' (some b)) (hk : k < w.heap.size) (hne : k ≠ b) (o : Nat) : w'.cell? ⟨k, o, none⟩ = w.cell? ⟨k, o, none⟩ :=
  World.cell?_of_block (a := ⟨k, o, none⟩) (hg.block k hk (by simpa using hne))
theorem maxF_bd {f : Nat → Int} {a c : Int} (h : ∀ i, a ≤ f i ∧ f i ≤ c) : ∀ n, a ≤ maxF f n ∧ maxF f n ≤ c
  | 0 => h 0
  | n + 1 => by have h1 := maxF_bd h n; have h2 := h (n + 1); simp only [maxF]; omega
/-- what the first y parts cost -/
def costsL (f : Nat → Int) (y : Nat) : List Int := (List.range y).map f
theorem costsL_len (f : Nat → Int) (y : Nat) : (costsL f y).length = y := by simp [costsL]
theorem costsL_snoc (f : Nat → Int) (y : Nat) : costsL f (y + 1) = costsL f y ++ [f y] := by simp [costsL, List.range_succ]
theorem costs_ints {N : Nat} {w : World} {v : Value} {f : Nat → Int} {y : Nat} (h : OwnI N w v (costsL f y)) (hy : y ≤ 1000) : IntsAt w.heap.size w v y f := by
  have h' := h.ints (by rw [costsL_len]; omega)
  rw [costsL_len] at h'
  refine ListAt.mono h' (Below.refl _ _) (Nat.le_refl _) fun i r hi e => ?_
  rw [e]
  simp [costsL, List.getD, hi]
theorem costK_bd {B : KB} (hG : GoodB B) (mean : Bool) (s : Nat) : -1 ≤ costK B mean s ∧ costK B mean s ≤ 1048576 := by
  have h1 := leastL_bd B hG.V mean 8 (mems s) (mems_len s)
  have h2 := pow_bd (f := 8) (by omega)
  unfold costK; omega
theorem costS_pos {B : KB} {mean : Bool} {s m : Nat} (h : SetOk B s) : 0 ≤ costS B mean s m := by
  have hq : ∀ y : Nat, 0 ≤ costK B mean (partF B s m y) := fun y => (h.part m y).pos mean
  unfold costS
  split
  · have : ∀ n : Nat, 0 ≤ totalTo (many s : Int) (fun y : Nat => costK B mean (partF B s m y)) n := fun n => by
      induction n with
      | zero => simp only [totalTo]; omega
      | succ n ihn => simp only [totalTo]; have := hq n; omega
    exact this _
  · have : ∀ n : Nat, 0 ≤ maxF (fun y : Nat => costK B mean (partF B s m y)) n := fun n => by
      induction n with
      | zero => exact hq 0
      | succ n ihn => simp only [maxF]; have := hq (n + 1); omega
    have := this ((B.V m).toNat - 1)
    omega

/-- what the cost function of a search says -/
def SaysC (B : KB) (mean : Bool) (kc : Nat) : Prop := ∀ (s m N q : Nat) (v : Value) (w : World), SetOk B s → m < B.nv → (B.V m).toNat = q → IntsAt N w v q (fun y => costK B mean (partF B s m y)) →
    Calls Try.prog kc #[.int .u64 s, v] w fun e w' => e = .returned (.int .i64 (costS B mean s m)) ∧ w' = w
theorem says_worst (B : KB) (hG : GoodB B) : SaysC B false 82 := by
  intro s m N q v w hs hm hq hv
  have hV := hG.V m hm
  obtain ⟨r, rfl⟩ : ∃ r, q = r + 1 := ⟨q - 1, by omega⟩
  have hb := maxF_bd (f := fun y : Nat => costK B false (partF B s m y)) (fun y => costK_bd hG false _) r
  have := worstSet_any N r v s _ w hv (by omega) hb
  have e : costS B false s m = 1 + maxF (fun y : Nat => costK B false (partF B s m y)) r := by
    unfold costS; rw [hq]; rfl
  rw [e]; exact this
theorem says_total (B : KB) (hG : GoodB B) : SaysC B true 85 := by
  intro s m N q v w hs hm hq hv
  have hV := hG.V m hm
  have hmany : many s ≤ 8 := by rw [many_mems]; exact mems_len s
  have := total_any N q v s _ w hv (by omega) hs.lt (fun k hk => by
    have h1 := totalTo_bd (a := (many s : Int)) (f := fun y : Nat => costK B true (partF B s m y)) (fun y => costK_bd hG true _) k
    have h2 := h1.2 (by omega)
    have h3 := h1.1
    omega)
  have e : costS B true s m = totalTo (many s) (fun y : Nat => costK B true (partF B s m y)) q := by
    unfold costS; rw [hq]; rfl
  rw [e]; exact this

theorem containsK_any (B : KB) (g q s m : Nat) (w : World) (h : RowAt w g q (u64F fun y => partF B s m y)) (hq : (B.V m).toNat = q) (hq3 : q ≤ 1000) (r : Bool) (hr : wholeK B s m = r) :
    Calls Try.prog 144 #[.slice (some ⟨g, 0, none⟩) q q, .int .u64 s] w fun e w' => e = .returned (.bool r) ∧ w' = w := by
  have h2 := containsSet_any g q s _ w h hq3
  refine h2.mono ?_
  rintro e w' ⟨rfl, rfl⟩
  exact ⟨ret_bool (by rw [← hr]; unfold wholeK; rw [hq]), rfl⟩
theorem grown_own {w w1 w2 : World} {b : Nat} {v : Value} (h : w.grownBy w1 (some b)) (hg : w1.grownBy w2 v.ownBlock) (hv : ∀ j, v.ownBlock = some j → w.heap.size ≤ j) : w.grownBy w2 (some b) :=
  ⟨hg.os.trans h.os, hg.tape.trans h.tape, hg.output.trans h.output, Nat.le_trans h.size hg.size, fun k hk hne => (hg.block k (Nat.lt_of_lt_of_le hk h.size) (fun e => by have := hv k e.symm; omega)).trans (h.block k hk hne)⟩

set_option maxRecDepth 100000 in
set_option maxHeartbeats 3200000 in
theorem question_worst (B : KB) (hG : GoodB B) (bk b N f : Nat) (hls : SaysS B false bk b N 82 f) : SaysQ B false bk b N 82 f := by
  intro s n w hs h1 hf henv hfo hn
  have hco := says_worst B hG
  obtain ⟨i0, hi, hz0, hz1, hz2⟩ := info_parts Try.infoInt
  obtain ⟨wb, hwb, HBb, hszb, hblkb⟩ := box1 w (.cells #[.int .i64 B.nv, .func (.func 119) #[] #[], .func (.func 120) #[] #[.pointer (some ⟨bk, 0, none⟩)], .func (.func 82) #[] #[], .map (some b)] 101)
  have hgb : w.grownBy wb (some b) := grown_of_below HBb.out
  have HFO : Hid (FoundAt B false b n wb) := hfo.kept (row := none) ⟨HBb.out.os, HBb.out.tape, HBb.out.output, HBb.out.size, fun k hk _ => HBb.out.block k hk⟩ (by simp)
  have hbw : b < w.heap.size := hfo.lt
  have hb2 : w.heap.size ≠ b := by omega
  have HENV := Lib.hid (henv.go hgb)
  have s0 := cell_blk hblkb 0 rfl
  have s1 := cell_blk hblkb 1 rfl
  have s2 := cell_blk hblkb 2 rfl
  have s3 := cell_blk hblkb 3 rfl
  have s4 := cell_blk hblkb 4 rfl
  have HS := Lib.hid hs
  have HLS := Lib.hid hls
  have HCO := Lib.hid hco
  have HG := Lib.hid hG
  have HGB := Lib.hid hgb
  have hnv5 := hG.nv
  obtain ⟨K, hK⟩ : ∃ K, 16 ^ f = K := ⟨_, rfl⟩
  have HK := Lib.hid hK
  rw [hK] at hn ⊢
  clear henv hfo hblkb hls hco hG hs hgb hK
  have HGr : Hid (wb.grownBy wb (some b)) := grown_of_below (Below.refl _ _)
  unfold seaV
  go_enter Try.func123, Try.ntmps123
  go_wp2
  (try rw [hwb])
  clear hwb
  go_loopw [4, 5, 14] (fun tm tc i wr => ∃ m : Nat, ∃ mk c : Int, m ≤ B.nv ∧ i = .int .i64 m ∧ tm = .int .i64 mk ∧ tc = .int .i64 c ∧ Hid (AskK B false s m mk c) ∧ Hid (FoundAt B false b (n + m * (3 * K)) wr) ∧ Hid (wb.grownBy wr (some b))) (fun _ _ i _ => B.nv - (intOf i).toNat)
  case atStart => exact ⟨0, -1, 0, Nat.zero_le _, rfl, rfl, rfl, AskK.zero _ _ _, HFO.out.mono (by omega), HGr⟩
  case round =>
    obtain ⟨m, mk, c, hm, rfl, rfl, rfl, HA, HF1, HG1⟩ := hrel
    have g1 := fun o => (grown_cell HG1.out hszb hb2 o)
    have t0 := (g1 0).trans s0
    have t1 := (g1 1).trans s1
    have t2 := (g1 2).trans s2
    have t3 := (g1 3).trans s3
    have t4 := (g1 4).trans s4
    have hs1 := HG1.out.size
    clear g1
    by_cases hmn : m < B.nv
    · have hmi : (m : Int) < (B.nv : Int) := by omega
      obtain ⟨a1, z1, a2, z2, a3, z3, hbk, hbook⟩ := (HENV.out.go HG1.out).book
      have HPA := Lib.hid (parts_any N bk B a1 a2 a3 z1 z2 z3 s m wr hbk hbook HG.out HS.out hmn)
      clear hbk hbook
      obtain ⟨q, hqq⟩ : ∃ q, (B.V m).toNat = q := ⟨_, rfl⟩
      have hV := HG.out.V m hmn
      have hq3 : q ≤ 3 := by omega
      have hq2 : 2 ≤ q := by omega
      have hbr : b < wr.heap.size := Nat.lt_of_lt_of_le hbw (Nat.le_trans HBb.out.size HG1.out.size)
      rw [hqq] at HPA
      have hne0 : mems s ≠ [] := by intro e; rw [e] at h1; simp at h1
      have hXX : ∀ i, i ∈ mems s → 0 ≤ B.X i m ∧ B.X i m < B.V m := fun i hi => (HG.out.X i (HS.out.mem i hi)).x m hmn
      have hws := whole_split HS.out.lt hne0 hXX
      have HQQ := Lib.hid hqq
      clear hqq hXX hne0 hV
      cases hsp : splitL B (mems s) m with
      | false =>
        rw [hsp] at hws
        have HWS := Lib.hid hws
        have HAS : Hid (AskK B false s (m + 1) mk c) := HA.out.skip hsp
        clear hws hsp
        go_wp2_with (first
          | (go_at_call 120; refine HPA.out.mono ?_; rintro e w2 ⟨vP, rfl, ⟨gP, rfl, hgP, hrow⟩, hb2'⟩; have HB2 := Lib.hid hb2'; clear hb2')
          | (go_at_call 144; refine (containsK_any B gP q s m _ hrow HQQ.out (by omega) _ HWS.out).mono ?_; rintro e wq ⟨rfl, hwq⟩; rw [hwq]; clear hwq wq))
        go_roundw
        case rel =>
          have h15 : (m + 1) * (3 * K) = m * (3 * K) + 3 * K := Nat.succ_mul _ _
          exact ⟨m + 1, mk, c, by omega, by go_num, rfl, rfl, HAS, (HF1.out.kept (row := none) ⟨HB2.out.os, HB2.out.tape, HB2.out.output, HB2.out.size, fun k hk _ => HB2.out.block k hk⟩ (by simp)).mono (by omega), grown_trans HG1.out (grown_of_below HB2.out)⟩
        case measure => simp [intOf]; omega
      | true =>
        rw [hsp] at hws
        have HWS := Lib.hid hws
        have HSP := Lib.hid hsp
        have HLT : Hid (∀ y : Nat, (mems (partF B s m y)).length ≤ f) := fun y => by
          have := havL_lt (B := B) (g := mems s) (m := m) (by intro e; rw [e] at h1; simp at h1) hsp (y : Int)
          rw [mems_part]; omega
        clear hws hsp
        go_wp2_with (first
          | (go_at_call 120; refine HPA.out.mono ?_; rintro e w2 ⟨vP, rfl, ⟨gP, rfl, hgP, hrow⟩, hb2'⟩; have HB2 := Lib.hid hb2'; clear hb2')
          | (go_at_call 144; refine (containsK_any B gP q s m _ hrow HQQ.out (by omega) _ HWS.out).mono ?_; rintro e wq ⟨rfl, hwq⟩; rw [hwq]; clear hwq wq))
        obtain ⟨cf, hcf⟩ : ∃ cf : Nat → Int, (fun y : Nat => costK B false (partF B s m y)) = cf := ⟨_, rfl⟩
        have HCF := Lib.hid hcf
        have HCFy : Hid (∀ y : Nat, costK B false (partF B s m y) = cf y) := fun y => by rw [← hcf]
        clear hcf
        have HROW := Lib.hid hrow
        have hgPs : gP < w2.heap.size := hrow.lt (by omega)
        have hgPb : gP ≠ b := by omega
        have hb2s : b < w2.heap.size := Nat.lt_of_lt_of_le hbr HB2.out.size
        have HG2 : Hid (wb.grownBy w2 (some b)) := grown_trans HG1.out (grown_of_below HB2.out)
        have HF2 : Hid (FoundAt B false b (n + m * (3 * K)) w2) := HF1.out.kept (row := none) ⟨HB2.out.os, HB2.out.tape, HB2.out.output, HB2.out.size, fun k hk _ => HB2.out.block k hk⟩ (by simp)
        have HGi : Hid (w2.grownBy w2 (some b)) := grown_of_below (Below.refl _ _)
        clear hrow
        go_loopw [8, 27] (fun t i wr => ∃ y : Nat, y ≤ q ∧ i = .int .i64 y ∧ Hid (OwnI w2.heap.size wr t (costsL cf y)) ∧ Hid (FoundAt B false b (n + m * (3 * K) + y * K) wr) ∧ Hid (w2.grownBy wr (some b))) (fun _ i _ => q - (intOf i).toNat)
        case atStart => exact ⟨0, Nat.zero_le _, rfl, own_nil _ _, HF2.out.mono (by omega), HGi⟩
        case round =>
          obtain ⟨y, hy, rfl, ho, HFy, HGy⟩ := hrel
          have HGz : Hid (wb.grownBy wr (some b)) := grown_trans HG2.out HGy.out
          have g1 := fun o => (grown_cell HGz.out hszb hb2 o)
          clear t0 t1 t2 t3 t4
          have t0 := (g1 0).trans s0
          have t1 := (g1 1).trans s1
          have t2 := (g1 2).trans s2
          have t3 := (g1 3).trans s3
          have t4 := (g1 4).trans s4
          have hsy := HGy.out.size
          clear g1
          have hyK : (y + 1) * K = y * K + K := Nat.succ_mul _ _
          have hyK3 : y * K ≤ 3 * K := Nat.mul_le_mul_right _ (by omega)
          have hmK : (m + 1) * (3 * K) = m * (3 * K) + 3 * K := Nat.succ_mul _ _
          have hmK5 : (m + 1) * (3 * K) ≤ 5 * (3 * K) := Nat.mul_le_mul_right _ (by omega)
          have hown := own_mono ho.out (Nat.le_refl _)
          have hcl := costsL_len cf y
          by_cases hyq : y < q
          · have hyi : (y : Int) < (q : Int) := by omega
            have hyK4 : (y + 1) * K ≤ 3 * K := Nat.mul_le_mul_right _ (by omega)
            have hcy : wr.cell? ⟨gP, y, none⟩ = some (.int .u64 (partF B s m y : Nat)) := (grown_cell HGy.out hgPs hgPb y).trans (HROW.out y hyq).1
            have HSN := Lib.hid (costsL_snoc cf y)
            have hle := HLS.out (partF B s m y) (n + m * (3 * K) + y * K) wr (HS.out.part m y) (HLT.out y) (HENV.out.go HGz.out) HFy.out (by rw [HK.out]; omega)
            rw [HK.out, HCFy.out] at hle
            have HLE := Lib.hid hle
            clear hle
            generalize costsL cf y = li at *
            go_wp2_with (first
              | (go_at_call 83; refine HLE.out.mono ?_; rintro e w4 ⟨rfl, hf4, hg4⟩; have HF4 := Lib.hid hf4; have HG4 := Lib.hid hg4; have hs4 := hg4.size; have hown4 := World.ownsRow.kept hown hg4 (.inr (by intro e9; have := (hown.lt b e9).1; omega)); clear hf4 hg4)
              | (at_builtin; refine wpList_append_own _ rfl _ _ 22 rfl w2.heap.size 3 i0 (.int .i64 0) 1 8 Try.underlying22 hi hz0 hz1 hz2 rfl (by decide) _ _ _ rfl (hown4.alloc _) ⟨w4.heap.size, 0, none⟩ 1 1 [.int .i64 (cf y)] rfl rfl (cell_one_new _ _ _) (by simp [Value.oneCell']) (by unfold maxLen; omega) (by omega) (by simp; omega) ?_; intro v' w5 hown5 hgrow _))
            go_roundw
            case rel =>
              have hga := grown_own (b := b) (grown_trans (grown_trans HGy.out HG4.out) (World.grownBy_alloc w4 _ _)) hgrow (fun j e => (hown4.lt j e).1)
              refine ⟨y + 1, by omega, by go_num, by rw [HSN.out]; unfold Hid OwnI; rw [List.length_append, List.map_append]; exact hown5, ?_, hga⟩
              exact ((HF4.out.kept (World.grownBy_alloc w4 _ none) (by simp)).kept hgrow (by intro e9; have := (hown4.lt b e9.symm).1; omega)).mono (by omega)
            case measure => simp [intOf]; omega
          · have hyq' : y = q := by omega
            subst hyq'
            have HCI : Hid (IntsAt wr.heap.size wr u8 y (fun y => costK B false (partF B s m y))) := by
              have := costs_ints ho.out (by omega)
              rw [← HCF.out] at this; exact this
            have hp := costS_pos (mean := false) (m := m) HS.out
            have hV := (HG.out.V m hmn).1
            have HA1 := HA
            obtain ⟨cS, hcS⟩ : ∃ cS, costS B false s m = cS := ⟨_, rfl⟩
            have HCC := Lib.hid hcS
            by_cases hmk : mk = -1
            · have hmke : (mk == -1) = true := by rw [hmk]; rfl
              have HAT : Hid (AskK B false s (m + 1) m cS) := by have := HA.out.take HSP.out HS.out hV hp (.inl hmk); rw [hcS] at this; exact this
              clear hmk hcS hp
              go_wp2_with (go_at_call 82; refine (HCO.out s m _ y _ _ HS.out hmn HQQ.out HCI.out).mono ?_; rw [HCC.out]; rintro e wq ⟨rfl, hwq⟩; rw [hwq]; clear hwq wq)
              go_roundw
              case rel => exact ⟨m + 1, m, cS, by omega, by go_num, rfl, rfl, HAT, HFy.out.mono (by omega), HGz⟩
              case measure => simp [intOf]; omega
            · have hmke : (mk == -1) = false := by simp [hmk]
              by_cases hlt : cS < c
              · have HAT : Hid (AskK B false s (m + 1) m cS) := by have := HA.out.take HSP.out HS.out hV hp (.inr (by rw [hcS]; exact hlt)); rw [hcS] at this; exact this
                clear hmk hcS hp
                go_wp2_with (go_at_call 82; refine (HCO.out s m _ y _ _ HS.out hmn HQQ.out HCI.out).mono ?_; rw [HCC.out]; rintro e wq ⟨rfl, hwq⟩; rw [hwq]; clear hwq wq)
                go_roundw
                case rel => exact ⟨m + 1, m, cS, by omega, by go_num, rfl, rfl, HAT, HFy.out.mono (by omega), HGz⟩
                case measure => simp [intOf]; omega
              · have HAT : Hid (AskK B false s (m + 1) mk c) := HA.out.keep HSP.out HS.out hV hmk (by rw [hcS]; exact hlt)
                clear hmk hcS hp
                go_wp2_with (go_at_call 82; refine (HCO.out s m _ y _ _ HS.out hmn HQQ.out HCI.out).mono ?_; rw [HCC.out]; rintro e wq ⟨rfl, hwq⟩; rw [hwq]; clear hwq wq)
                go_roundw
                case rel => exact ⟨m + 1, mk, c, by omega, by go_num, rfl, rfl, HAT, HFy.out.mono (by omega), HGz⟩
                case measure => simp [intOf]; omega
    · have HKK : Hid (m = B.nv) := by unfold Hid; omega
      go_wp2
      go_ret2
      have h15 : m * (3 * K) ≤ 5 * (3 * K) := Nat.mul_le_mul_right _ (by omega)
      exact ⟨mk, c, rfl, by rw [← HKK.out]; exact HA.out, HF1.out.mono (by omega), grown_trans HGB.out HG1.out⟩

set_option maxRecDepth 100000 in
set_option maxHeartbeats 3200000 in
theorem question_total (B : KB) (hG : GoodB B) (bk b N f : Nat) (hls : SaysS B true bk b N 85 f) : SaysQ B true bk b N 85 f := by
  intro s n w hs h1 hf henv hfo hn
  have hco := says_total B hG
  obtain ⟨i0, hi, hz0, hz1, hz2⟩ := info_parts Try.infoInt
  obtain ⟨wb, hwb, HBb, hszb, hblkb⟩ := box1 w (.cells #[.int .i64 B.nv, .func (.func 119) #[] #[], .func (.func 120) #[] #[.pointer (some ⟨bk, 0, none⟩)], .func (.func 85) #[] #[], .map (some b)] 101)
  have hgb : w.grownBy wb (some b) := grown_of_below HBb.out
  have HFO : Hid (FoundAt B true b n wb) := hfo.kept (row := none) ⟨HBb.out.os, HBb.out.tape, HBb.out.output, HBb.out.size, fun k hk _ => HBb.out.block k hk⟩ (by simp)
  have hbw : b < w.heap.size := hfo.lt
  have hb2 : w.heap.size ≠ b := by omega
  have HENV := Lib.hid (henv.go hgb)
  have s0 := cell_blk hblkb 0 rfl
  have s1 := cell_blk hblkb 1 rfl
  have s2 := cell_blk hblkb 2 rfl
  have s3 := cell_blk hblkb 3 rfl
  have s4 := cell_blk hblkb 4 rfl
  have HS := Lib.hid hs
  have HLS := Lib.hid hls
  have HCO := Lib.hid hco
  have HG := Lib.hid hG
  have HGB := Lib.hid hgb
  have hnv5 := hG.nv
  obtain ⟨K, hK⟩ : ∃ K, 16 ^ f = K := ⟨_, rfl⟩
  have HK := Lib.hid hK
  rw [hK] at hn ⊢
  clear henv hfo hblkb hls hco hG hs hgb hK
  have HGr : Hid (wb.grownBy wb (some b)) := grown_of_below (Below.refl _ _)
  unfold seaV
  go_enter Try.func123, Try.ntmps123
  go_wp2
  (try rw [hwb])
  clear hwb
  go_loopw [4, 5, 14] (fun tm tc i wr => ∃ m : Nat, ∃ mk c : Int, m ≤ B.nv ∧ i = .int .i64 m ∧ tm = .int .i64 mk ∧ tc = .int .i64 c ∧ Hid (AskK B true s m mk c) ∧ Hid (FoundAt B true b (n + m * (3 * K)) wr) ∧ Hid (wb.grownBy wr (some b))) (fun _ _ i _ => B.nv - (intOf i).toNat)
  case atStart => exact ⟨0, -1, 0, Nat.zero_le _, rfl, rfl, rfl, AskK.zero _ _ _, HFO.out.mono (by omega), HGr⟩
  case round =>
    obtain ⟨m, mk, c, hm, rfl, rfl, rfl, HA, HF1, HG1⟩ := hrel
    have g1 := fun o => (grown_cell HG1.out hszb hb2 o)
    have t0 := (g1 0).trans s0
    have t1 := (g1 1).trans s1
    have t2 := (g1 2).trans s2
    have t3 := (g1 3).trans s3
    have t4 := (g1 4).trans s4
    have hs1 := HG1.out.size
    clear g1
    by_cases hmn : m < B.nv
    · have hmi : (m : Int) < (B.nv : Int) := by omega
      obtain ⟨a1, z1, a2, z2, a3, z3, hbk, hbook⟩ := (HENV.out.go HG1.out).book
      have HPA := Lib.hid (parts_any N bk B a1 a2 a3 z1 z2 z3 s m wr hbk hbook HG.out HS.out hmn)
      clear hbk hbook
      obtain ⟨q, hqq⟩ : ∃ q, (B.V m).toNat = q := ⟨_, rfl⟩
      have hV := HG.out.V m hmn
      have hq3 : q ≤ 3 := by omega
      have hq2 : 2 ≤ q := by omega
      have hbr : b < wr.heap.size := Nat.lt_of_lt_of_le hbw (Nat.le_trans HBb.out.size HG1.out.size)
      rw [hqq] at HPA
      have hne0 : mems s ≠ [] := by intro e; rw [e] at h1; simp at h1
      have hXX : ∀ i, i ∈ mems s → 0 ≤ B.X i m ∧ B.X i m < B.V m := fun i hi => (HG.out.X i (HS.out.mem i hi)).x m hmn
      have hws := whole_split HS.out.lt hne0 hXX
      have HQQ := Lib.hid hqq
      clear hqq hXX hne0 hV
      cases hsp : splitL B (mems s) m with
      | false =>
        rw [hsp] at hws
        have HWS := Lib.hid hws
        have HAS : Hid (AskK B true s (m + 1) mk c) := HA.out.skip hsp
        clear hws hsp
        go_wp2_with (first
          | (go_at_call 120; refine HPA.out.mono ?_; rintro e w2 ⟨vP, rfl, ⟨gP, rfl, hgP, hrow⟩, hb2'⟩; have HB2 := Lib.hid hb2'; clear hb2')
          | (go_at_call 144; refine (containsK_any B gP q s m _ hrow HQQ.out (by omega) _ HWS.out).mono ?_; rintro e wq ⟨rfl, hwq⟩; rw [hwq]; clear hwq wq))
        go_roundw
        case rel =>
          have h15 : (m + 1) * (3 * K) = m * (3 * K) + 3 * K := Nat.succ_mul _ _
          exact ⟨m + 1, mk, c, by omega, by go_num, rfl, rfl, HAS, (HF1.out.kept (row := none) ⟨HB2.out.os, HB2.out.tape, HB2.out.output, HB2.out.size, fun k hk _ => HB2.out.block k hk⟩ (by simp)).mono (by omega), grown_trans HG1.out (grown_of_below HB2.out)⟩
        case measure => simp [intOf]; omega
      | true =>
        rw [hsp] at hws
        have HWS := Lib.hid hws
        have HSP := Lib.hid hsp
        have HLT : Hid (∀ y : Nat, (mems (partF B s m y)).length ≤ f) := fun y => by
          have := havL_lt (B := B) (g := mems s) (m := m) (by intro e; rw [e] at h1; simp at h1) hsp (y : Int)
          rw [mems_part]; omega
        clear hws hsp
        go_wp2_with (first
          | (go_at_call 120; refine HPA.out.mono ?_; rintro e w2 ⟨vP, rfl, ⟨gP, rfl, hgP, hrow⟩, hb2'⟩; have HB2 := Lib.hid hb2'; clear hb2')
          | (go_at_call 144; refine (containsK_any B gP q s m _ hrow HQQ.out (by omega) _ HWS.out).mono ?_; rintro e wq ⟨rfl, hwq⟩; rw [hwq]; clear hwq wq))
        obtain ⟨cf, hcf⟩ : ∃ cf : Nat → Int, (fun y : Nat => costK B true (partF B s m y)) = cf := ⟨_, rfl⟩
        have HCF := Lib.hid hcf
        have HCFy : Hid (∀ y : Nat, costK B true (partF B s m y) = cf y) := fun y => by rw [← hcf]
        clear hcf
        have HROW := Lib.hid hrow
        have hgPs : gP < w2.heap.size := hrow.lt (by omega)
        have hgPb : gP ≠ b := by omega
        have hb2s : b < w2.heap.size := Nat.lt_of_lt_of_le hbr HB2.out.size
        have HG2 : Hid (wb.grownBy w2 (some b)) := grown_trans HG1.out (grown_of_below HB2.out)
        have HF2 : Hid (FoundAt B true b (n + m * (3 * K)) w2) := HF1.out.kept (row := none) ⟨HB2.out.os, HB2.out.tape, HB2.out.output, HB2.out.size, fun k hk _ => HB2.out.block k hk⟩ (by simp)
        have HGi : Hid (w2.grownBy w2 (some b)) := grown_of_below (Below.refl _ _)
        clear hrow
        go_loopw [8, 27] (fun t i wr => ∃ y : Nat, y ≤ q ∧ i = .int .i64 y ∧ Hid (OwnI w2.heap.size wr t (costsL cf y)) ∧ Hid (FoundAt B true b (n + m * (3 * K) + y * K) wr) ∧ Hid (w2.grownBy wr (some b))) (fun _ i _ => q - (intOf i).toNat)
        case atStart => exact ⟨0, Nat.zero_le _, rfl, own_nil _ _, HF2.out.mono (by omega), HGi⟩
        case round =>
          obtain ⟨y, hy, rfl, ho, HFy, HGy⟩ := hrel
          have HGz : Hid (wb.grownBy wr (some b)) := grown_trans HG2.out HGy.out
          have g1 := fun o => (grown_cell HGz.out hszb hb2 o)
          clear t0 t1 t2 t3 t4
          have t0 := (g1 0).trans s0
          have t1 := (g1 1).trans s1
          have t2 := (g1 2).trans s2
          have t3 := (g1 3).trans s3
          have t4 := (g1 4).trans s4
          have hsy := HGy.out.size
          clear g1
          have hyK : (y + 1) * K = y * K + K := Nat.succ_mul _ _
          have hyK3 : y * K ≤ 3 * K := Nat.mul_le_mul_right _ (by omega)
          have hmK : (m + 1) * (3 * K) = m * (3 * K) + 3 * K := Nat.succ_mul _ _
          have hmK5 : (m + 1) * (3 * K) ≤ 5 * (3 * K) := Nat.mul_le_mul_right _ (by omega)
          have hown := own_mono ho.out (Nat.le_refl _)
          have hcl := costsL_len cf y
          by_cases hyq : y < q
          · have hyi : (y : Int) < (q : Int) := by omega
            have hyK4 : (y + 1) * K ≤ 3 * K := Nat.mul_le_mul_right _ (by omega)
            have hcy : wr.cell? ⟨gP, y, none⟩ = some (.int .u64 (partF B s m y : Nat)) := (grown_cell HGy.out hgPs hgPb y).trans (HROW.out y hyq).1
            have HSN := Lib.hid (costsL_snoc cf y)
            have hle := HLS.out (partF B s m y) (n + m * (3 * K) + y * K) wr (HS.out.part m y) (HLT.out y) (HENV.out.go HGz.out) HFy.out (by rw [HK.out]; omega)
            rw [HK.out, HCFy.out] at hle
            have HLE := Lib.hid hle
            clear hle
            generalize costsL cf y = li at *
            go_wp2_with (first
              | (go_at_call 83; refine HLE.out.mono ?_; rintro e w4 ⟨rfl, hf4, hg4⟩; have HF4 := Lib.hid hf4; have HG4 := Lib.hid hg4; have hs4 := hg4.size; have hown4 := World.ownsRow.kept hown hg4 (.inr (by intro e9; have := (hown.lt b e9).1; omega)); clear hf4 hg4)
              | (at_builtin; refine wpList_append_own _ rfl _ _ 22 rfl w2.heap.size 3 i0 (.int .i64 0) 1 8 Try.underlying22 hi hz0 hz1 hz2 rfl (by decide) _ _ _ rfl (hown4.alloc _) ⟨w4.heap.size, 0, none⟩ 1 1 [.int .i64 (cf y)] rfl rfl (cell_one_new _ _ _) (by simp [Value.oneCell']) (by unfold maxLen; omega) (by omega) (by simp; omega) ?_; intro v' w5 hown5 hgrow _))
            go_roundw
            case rel =>
              have hga := grown_own (b := b) (grown_trans (grown_trans HGy.out HG4.out) (World.grownBy_alloc w4 _ _)) hgrow (fun j e => (hown4.lt j e).1)
              refine ⟨y + 1, by omega, by go_num, by rw [HSN.out]; unfold Hid OwnI; rw [List.length_append, List.map_append]; exact hown5, ?_, hga⟩
              exact ((HF4.out.kept (World.grownBy_alloc w4 _ none) (by simp)).kept hgrow (by intro e9; have := (hown4.lt b e9.symm).1; omega)).mono (by omega)
            case measure => simp [intOf]; omega
          · have hyq' : y = q := by omega
            subst hyq'
            have HCI : Hid (IntsAt wr.heap.size wr u8 y (fun y => costK B true (partF B s m y))) := by
              have := costs_ints ho.out (by omega)
              rw [← HCF.out] at this; exact this
            have hp := costS_pos (mean := true) (m := m) HS.out
            have hV := (HG.out.V m hmn).1
            have HA1 := HA
            obtain ⟨cS, hcS⟩ : ∃ cS, costS B true s m = cS := ⟨_, rfl⟩
            have HCC := Lib.hid hcS
            by_cases hmk : mk = -1
            · have hmke : (mk == -1) = true := by rw [hmk]; rfl
              have HAT : Hid (AskK B true s (m + 1) m cS) := by have := HA.out.take HSP.out HS.out hV hp (.inl hmk); rw [hcS] at this; exact this
              clear hmk hcS hp
              go_wp2_with (go_at_call 85; refine (HCO.out s m _ y _ _ HS.out hmn HQQ.out HCI.out).mono ?_; rw [HCC.out]; rintro e wq ⟨rfl, hwq⟩; rw [hwq]; clear hwq wq)
              go_roundw
              case rel => exact ⟨m + 1, m, cS, by omega, by go_num, rfl, rfl, HAT, HFy.out.mono (by omega), HGz⟩
              case measure => simp [intOf]; omega
            · have hmke : (mk == -1) = false := by simp [hmk]
              by_cases hlt : cS < c
              · have HAT : Hid (AskK B true s (m + 1) m cS) := by have := HA.out.take HSP.out HS.out hV hp (.inr (by rw [hcS]; exact hlt)); rw [hcS] at this; exact this
                clear hmk hcS hp
                go_wp2_with (go_at_call 85; refine (HCO.out s m _ y _ _ HS.out hmn HQQ.out HCI.out).mono ?_; rw [HCC.out]; rintro e wq ⟨rfl, hwq⟩; rw [hwq]; clear hwq wq)
                go_roundw
                case rel => exact ⟨m + 1, m, cS, by omega, by go_num, rfl, rfl, HAT, HFy.out.mono (by omega), HGz⟩
                case measure => simp [intOf]; omega
              · have HAT : Hid (AskK B true s (m + 1) mk c) := HA.out.keep HSP.out HS.out hV hmk (by rw [hcS]; exact hlt)
                clear hmk hcS hp
                go_wp2_with (go_at_call 85; refine (HCO.out s m _ y _ _ HS.out hmn HQQ.out HCI.out).mono ?_; rw [HCC.out]; rintro e wq ⟨rfl, hwq⟩; rw [hwq]; clear hwq wq)
                go_roundw
                case rel => exact ⟨m + 1, mk, c, by omega, by go_num, rfl, rfl, HAT, HFy.out.mono (by omega), HGz⟩
                case measure => simp [intOf]; omega
    · have HKK : Hid (m = B.nv) := by unfold Hid; omega
      go_wp2
      go_ret2
      have h15 : m * (3 * K) ≤ 5 * (3 * K) := Nat.mul_le_mul_right _ (by omega)
      exact ⟨mk, c, rfl, by rw [← HKK.out]; exact HA.out, HF1.out.mono (by omega), grown_trans HGB.out HG1.out⟩

end Go.Proofs.Ytbieglmpkljjjaa

namespace Go.Proofs.Ytbieglmpkljjjaa
open Go.RowKit Go.Maps

theorem least_says (B : KB) (hG : GoodB B) (mean : Bool) (bk b N kc : Nat) (hq : ∀ f, SaysS B mean bk b N kc f → SaysQ B mean bk b N kc f) : ∀ f, SaysS B mean bk b N kc f := by
  have hit : ∀ (f s n : Nat) (w : World) (D : DataW Unit), SetOk B s → w.ownsMap Try.prog 104 (plainElem Try.prog 3) b n D → (∀ s, SetOk B s → has D (setKey s) = true → D.atKey (setKey s) (.lit (.int .i64 0)) = .lit (.int .i64 (costK B mean s))) → has D (setKey s) = true →
      Calls Try.prog 83 #[seaV B.nv bk b kc, .int .u64 s] w fun e w' => e = .returned (.int .i64 (costK B mean s)) ∧ FoundAt B mean b (n + 16 ^ f) w' ∧ w.grownBy w' (some b) := fun f s n w D hs ho hD hh => by
    refine (least_hit B mean bk b kc D s n w hs ho hh (hD s hs hh)).mono ?_
    rintro e w' ⟨rfl, hb⟩
    exact ⟨rfl, FoundAt.mono (FoundAt.kept (row := none) ⟨D, ho, hD⟩ ⟨hb.os, hb.tape, hb.output, hb.size, fun k hk _ => hb.block k hk⟩ (by simp)) (Nat.le_add_right _ _), grown_of_below hb⟩
  have small : ∀ (f s n : Nat) (w : World), SetOk B s → (mems s).length ≤ 1 → FoundAt B mean b n w → n + 16 ^ f ≤ 1000000000000 →
      Calls Try.prog 83 #[seaV B.nv bk b kc, .int .u64 s] w fun e w' => e = .returned (.int .i64 (costK B mean s)) ∧ FoundAt B mean b (n + 16 ^ f) w' ∧ w.grownBy w' (some b) := fun f s n w hs h1 hfo hn => by
    obtain ⟨D, ho, hD⟩ := hfo
    have hp : 1 ≤ 16 ^ f := Nat.pow_pos (by omega)
    cases hh : has D (setKey s) with
    | true => exact hit f s n w D hs ho hD hh
    | false =>
      refine (least_small2 B hG mean bk b kc D s n w hs (by omega) ho hh h1 hD).mono ?_
      rintro e w' ⟨rfl, h2, h3⟩
      exact ⟨rfl, h2.mono (by omega), h3⟩
  intro f
  induction f with
  | zero => intro s n w hs hl henv hfo hn; exact small 0 s n w hs (by omega) hfo hn
  | succ f ih =>
    intro s n w hs hl henv hfo hn
    by_cases h1 : (mems s).length ≤ 1
    · exact small (f + 1) s n w hs h1 hfo hn
    · obtain ⟨D, ho, hD⟩ := id hfo
      cases hh : has D (setKey s) with
      | true => exact hit (f + 1) s n w D hs ho hD hh
      | false =>
        have hp : 1 ≤ 16 ^ f := Nat.pow_pos (by omega)
        have e16 : 16 ^ (f + 1) = 16 * 16 ^ f := by rw [Nat.pow_succ, Nat.mul_comm]
        refine (least_big B hG mean bk b N kc f (hq f ih) D s n w hs (by omega) henv ho hh h1 hl hD).mono ?_
        rintro e w' ⟨rfl, h2, h3⟩
        exact ⟨rfl, h2.mono (by omega), h3⟩

theorem least_worst (B : KB) (hG : GoodB B) (bk b N : Nat) (f : Nat) : SaysS B false bk b N 82 f := least_says B hG false bk b N _ (fun f h => question_worst B hG bk b N f h) f
theorem least_total (B : KB) (hG : GoodB B) (bk b N : Nat) (f : Nat) : SaysS B true bk b N 85 f := least_says B hG true bk b N _ (fun f h => question_total B hG bk b N f h) f

/-- the marks that tell two sorts apart, as a set -/
def apartS (B : KB) (s t : Nat) : Nat := setF (fun m => decide (B.X s m ≠ B.X t m)) B.nv
theorem apartS_lt (B : KB) (s t : Nat) (h : B.nv ≤ 5) : apartS B s t < 256 := (setF_spec _ B.nv (by omega)).1
theorem apartS_many (B : KB) (s t : Nat) (h : B.nv ≤ 5) : many (apartS B s t) = (apartL B s t B.nv).length := by
  have key : ∀ k, k ≤ 8 → many (setF (fun m => decide (B.X s m ≠ B.X t m)) k) = (apartL B s t k).length := by
    intro k
    induction k with
    | zero => intro _; show many 0 = 0; decide
    | succ k ih =>
      intro hk
      have ih := ih (by omega)
      obtain ⟨h1, h2⟩ := setF_spec (fun m => decide (B.X s m ≠ B.X t m)) k (by omega)
      by_cases hx : B.X s k = B.X t k
      · rw [apartL_miss hx, ← ih]; simp [setF, hx]
      · rw [apartL_hit hx, List.length_append, ← ih]
        simp only [setF, decide_eq_true hx, if_true]
        exact cnt_upd (n := 8) (y := k) (by omega) (by rw [h2]; simp) (fun i => by rw [put1_bit]; congr 1; rw [Bool.eq_iff_iff]; simp [eq_comm])
  exact key B.nv (by omega)

set_option maxRecDepth 100000 in
set_option maxHeartbeats 3200000 in
theorem apart_any (N : Nat) (v : Value) (B : KB) (s t : Nat) (w : World) (h : BookAt N w v B) (hG : GoodB B) (hs : s < B.ns) (ht : t < B.ns) :
    Calls Try.prog 97 #[v, .int .i64 s, .int .i64 t] w fun e w' => e = .returned (.int .u64 (apartS B s t : Nat)) ∧ Below w.heap.size w w' := by
  have h' := h
  obtain ⟨_, a1, z1, a2, z2, a3, z3, rfl, _⟩ := h'
  obtain ⟨ws, hws, HB, hsz, hblk⟩ := box1 w (.cells #[.slice a1 B.nv z1, .slice a2 B.ns z2, .slice a3 B.D.n z3] 26)
  have q0 := cell_blk hblk 0 rfl
  have q1 := cell_blk hblk 1 rfl
  have q2 := cell_blk hblk 2 rfl
  have HBK := Lib.hid (h.go HB.out)
  have HB0 : Hid (Below ws.heap.size ws ws) := Below.refl _ _
  have HNS : Hid (N ≤ ws.heap.size) := HBK.out.1
  have hlens := h.lens
  obtain ⟨hlv, hls, hln⟩ := hlens
  clear hblk h
  have hnv5 := hG.nv
  obtain ⟨b2, off2, rfl, hb2, hr2⟩ := HBK.out.sorts.cells (by omega)
  obtain ⟨ps, cs, hcs, hints⟩ := hr2 s hs
  have hLs : B.L s = B.nv := (hG.X s hs).n
  obtain ⟨pt, ct, hct, hintt⟩ := hr2 t ht
  have hLt : B.L t = B.nv := (hG.X t ht).n
  rw [hLs] at hcs hints
  rw [hLt] at hct hintt
  have hnv1 := hG.nv1
  obtain ⟨bs, os, rfl, hbs, hrs⟩ := hints.cells (by omega)
  obtain ⟨bt, ot, rfl, hbt, hrt⟩ := hintt.cells (by omega)
  have HRS := Lib.hid hrs
  have HRT := Lib.hid hrt
  have hbs' : bs < ws.heap.size := by have := HNS.out; omega
  have hbt' : bt < ws.heap.size := by have := HNS.out; omega
  have hb2' : b2 < ws.heap.size := by have := HNS.out; omega
  have hsi : (s : Int) < (B.ns : Int) := by omega
  have hti : (t : Int) < (B.ns : Int) := by omega
  clear hG hr2 hrs hrt hints hintt hLs hLt
  have HD0 : Hid (Drawn ws ws) := Drawn.refl _
  go_enter Try.func97, Try.ntmps97
  go_wp2
  clear hws
  go_loopw [7, 12] (fun a i wr => ∃ k : Nat, k ≤ B.nv ∧ i = .int .i64 k ∧ a = .int .u64 (setF (fun m => decide (B.X s m ≠ B.X t m)) k : Nat) ∧ Hid (Drawn ws wr)) (fun _ i _ => B.nv - (intOf i).toNat)
  case atStart => exact ⟨0, Nat.zero_le _, rfl, rfl, HD0⟩
  case round =>
    obtain ⟨k, hk, rfl, rfl, hq⟩ := hrel
    by_cases hkn : k < B.nv
    · have hki : (k : Int) < (B.nv : Int) := by omega
      have hcks := hq.out.cell (HRS.out k hkn)
      have hckt := hq.out.cell (HRT.out k hkn)
      have hcs' := hq.out.cell hcs
      have hct' := hq.out.cell hct
      have r0 := hq.out.cell q0
      have r1 := hq.out.cell q1
      have r2 := hq.out.cell q2
      have hsq := (hq.out.below 0).size
      have hsr : bs < wr.heap.size := by omega
      have htr : bt < wr.heap.size := by omega
      have h2r : b2 < wr.heap.size := by omega
      have hszr : w.heap.size < wr.heap.size := by omega
      have HL := Lib.hid (setF_spec (fun m => decide (B.X s m ≠ B.X t m)) k (by omega)).1
      have hk8 : k < 8 := by omega
      clear hbs' hbt' hb2' hcs hct q0 q1 q2 hsq
      by_cases hx : B.X s k = B.X t k
      · have HP : Hid (setF (fun m => decide (B.X s m ≠ B.X t m)) (k + 1) = setF (fun m => decide (B.X s m ≠ B.X t m)) k) := by unfold Hid; simp [setF, hx]
        have hxe : (B.X s k != B.X t k) = false := by simp [hx]
        clear hx
        generalize setF (fun m => decide (B.X s m ≠ B.X t m)) k = se at *
        go_wp2
        go_quiet (fail)
        have HQ := Lib.hid (hq.out.more nq)
        go_wp2
        go_roundw
        case rel => exact ⟨k + 1, by omega, by go_num, by rw [HP.out], HQ⟩
        case measure => simp [intOf]; omega
      · have HP : Hid (setF (fun m => decide (B.X s m ≠ B.X t m)) (k + 1) = put1 (setF (fun m => decide (B.X s m ≠ B.X t m)) k) k) := by unfold Hid; simp only [setF, decide_eq_true hx, if_true]
        have hxe : (B.X s k != B.X t k) = true := by simp [hx]
        clear hx
        generalize setF (fun m => decide (B.X s m ≠ B.X t m)) k = se at *
        go_wp2
        go_quiet (fail)
        have HQ := Lib.hid (hq.out.more nq)
        go_wp2_with (go_at_call 110; refine (setWith_any se k HL.out hk8 _).mono ?_; rintro e wq ⟨rfl, hwq⟩; rw [hwq]; clear hwq wq)
        go_roundw
        case rel => exact ⟨k + 1, by omega, by go_num, by rw [HP.out], HQ⟩
        case measure => simp [intOf]; omega
    · have HK : Hid (setF (fun m => decide (B.X s m ≠ B.X t m)) k = apartS B s t) := by unfold Hid apartS; rw [show k = B.nv by omega]
      have r0 := hq.out.cell q0
      go_wp2
      go_ret
      exact ⟨by rw [← HK.out]; rfl, fin HB.out (hq.out.below _)⟩

end Go.Proofs.Ytbieglmpkljjjaa
