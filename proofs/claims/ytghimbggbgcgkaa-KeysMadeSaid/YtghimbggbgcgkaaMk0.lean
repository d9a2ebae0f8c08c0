/-
  Mk0: the maker of package keys: what it holds; an end.
-/
import Derived.Test.YtghimbggbgcgkaaBest
import Derived.Test.YtghimbggbgcgkaaLRight
import Derived.Test.YtghimbggbgcgkaaLBox
import Derived.Maps.AppendAt
namespace Go.Proofs.Ytghimbggbgcgkaa
open Go.RowKit Go.Maps

theorem own_setM {W : World} {base hi n i size : Nat} {e : TypeId} {v : Value} {xs : List Value} (h : W.ownsRow base e size v n xs) (hhl : hi < base) (x : Value) : (W.setCell ⟨hi, i, none⟩ x).ownsRow base e size v n xs := by
  obtain ⟨h1, h2 | ⟨g, cap, cur, e1, h3, h4, h5⟩⟩ := h
  · exact ⟨h1, .inl h2⟩
  · refine ⟨h1, .inr ⟨g, cap, cur, e1, h3, ?_, h5⟩⟩
    rw [Below.heap_setCell _ _ _ _ (by show g ≠ hi; omega)]
    exact h4
/-- a node, as the maker holds it -/
structure NR where
  ma : Int
  so : Int
  nx : List Nat
def nodeCells (r : NR) (row : Value) : List Value := [.int .i64 r.ma, .int .i64 r.so, row]
def flatN : List NR → List Value → List Value
  | r :: l, v :: vs => nodeCells r v ++ flatN l vs
  | _, _ => []
theorem flatN_append : ∀ (l : List NR) (vs : List Value) (l' : List NR) (vs' : List Value), l.length = vs.length → flatN (l ++ l') (vs ++ vs') = flatN l vs ++ flatN l' vs' := by
  intro l
  induction l with
  | nil => intro vs l' vs' h; cases vs with | nil => rfl | cons a b => simp at h
  | cons a l ih =>
    intro vs l' vs' h
    cases vs with
    | nil => simp at h
    | cons b vs =>
      simp only [List.cons_append, flatN]
      rw [ih vs l' vs' (by simpa using h), List.append_assoc]
theorem flatN_len : ∀ (l : List NR) (vs : List Value), l.length = vs.length → (flatN l vs).length = l.length * 3 := by
  intro l
  induction l with
  | nil => intro vs _; simp [flatN]
  | cons a l ih =>
    intro vs h
    cases vs with
    | nil => simp at h
    | cons b vs =>
      have := ih vs (by simpa using h)
      simp only [flatN, List.length_append, nodeCells, List.length_cons, List.length_nil, this]
      omega
theorem flatN_get : ∀ (l : List NR) (vs : List Value) (i : Nat) (r : NR) (row : Value), l[i]? = some r → vs[i]? = some row → (flatN l vs)[i * 3]? = some (.int .i64 r.ma) ∧ (flatN l vs)[i * 3 + 1]? = some (.int .i64 r.so) ∧ (flatN l vs)[i * 3 + 2]? = some row := by
  intro l
  induction l with
  | nil => intro vs i r row h; cases h
  | cons a l ih =>
    intro vs i r row h h'
    cases vs with
    | nil => cases h'
    | cons b vs =>
      cases i with
      | zero =>
        obtain rfl : a = r := by simpa using h
        obtain rfl : b = row := by simpa using h'
        simp [flatN, nodeCells]
      | succ i =>
        obtain ⟨h1, h2, h3⟩ := ih vs i r row (by simpa using h) (by simpa using h')
        have e : flatN (a :: l) (b :: vs) = nodeCells a b ++ flatN l vs := rfl
        have hl : (nodeCells a b).length = 3 := rfl
        rw [e]
        refine ⟨?_, ?_, ?_⟩
        · rw [List.getElem?_append_right (by rw [hl]; omega), hl, show (i + 1) * 3 - 3 = i * 3 by omega]; exact h1
        · rw [List.getElem?_append_right (by rw [hl]; omega), hl, show (i + 1) * 3 + 1 - 3 = i * 3 + 1 by omega]; exact h2
        · rw [List.getElem?_append_right (by rw [hl]; omega), hl, show (i + 1) * 3 + 2 - 3 = i * 3 + 2 by omega]; exact h3

/-- what stands in the node of a set of sorts -/
def endSort (s : Nat) : Int := (ints (mems s)).getLastD (-1)
def NodeOk (B : KB) (ss : List Nat) (i s : Nat) (r : NR) : Prop :=
  ((mems s).length ≤ 1 ∧ r.ma = -1 ∧ r.nx = [] ∧ r.so = endSort s) ∨
  (¬ (mems s).length ≤ 1 ∧ ∃ m : Nat, m < B.nv ∧ r.ma = m ∧ r.so = -1 ∧ r.nx.length = (B.V m).toNat ∧ splitL B (mems s) m = true ∧ costS B false s m = costK B false s ∧
    ∀ y, y < (B.V m).toNat → ∃ j, j < i ∧ r.nx[y]? = some j ∧ ss[j]? = some (partF B s m y))
theorem NodeOk.more {B : KB} {ss : List Nat} {i s : Nat} {r : NR} (h : NodeOk B ss i s r) (ss' : List Nat) (hi : i ≤ ss.length) : NodeOk B (ss ++ ss') i s r := by
  rcases h with h | ⟨h1, m, h2, h3, h4, h5, h6, h7, h8⟩
  · exact .inl h
  · refine .inr ⟨h1, m, h2, h3, h4, h5, h6, h7, fun y hy => ?_⟩
    obtain ⟨j, a, b, c⟩ := h8 y hy
    exact ⟨j, a, b, by rw [List.getElem?_append_left (by omega)]; exact c⟩

def makA (nv bk b pb : Nat) (v : Value) : Array Value := #[.int .i64 nv, .func (.func 119) #[] #[], .func (.func 120) #[] #[.pointer (some ⟨bk, 0, none⟩)], .func (.func 82) #[] #[], .map (some b), v, .map (some pb)]

/-- what the maker holds, but for its box and the list of its nodes -/
structure StR (B : KB) (bk b pb Mb N base n : Nat) (w : World) (l : List NR) (rows : List Value) (ss : List Nat) : Prop where
  env : SEnv B bk b N w
  found : FoundAt B false b n w
  places : ∃ D : DataW Unit, w.ownsMap Try.prog 104 (plainElem Try.prog 3) pb l.length D ∧
    (∀ s, s < 256 → has D (setKey s) = true → ∃ i : Nat, ss[i]? = some s ∧ D.atKey (setKey s) (.lit (.int .i64 0)) = .lit (.int .i64 i)) ∧ (∀ (i s : Nat), ss[i]? = some s → has D (setKey s) = true)
  rlen : rows.length = l.length
  slen : ss.length = l.length
  lists : ∀ (i : Nat) (r : NR) (row : Value), l[i]? = some r → rows[i]? = some row → OwnI base w row (ints r.nx)
  apart : ∀ (i j : Nat) (a c : Value) (g : Nat), i < j → rows[i]? = some a → rows[j]? = some c → a.ownBlock = some g → c.ownBlock ≠ some g
  good : ∀ (i s : Nat) (r : NR), ss[i]? = some s → l[i]? = some r → SetOk B s ∧ NodeOk B ss i s r
  ord : N ≤ Mb ∧ Mb < base ∧ b < base ∧ pb < base ∧ bk < base ∧ bk ≠ Mb ∧ bk ≠ pb ∧ b ≠ Mb ∧ pb ≠ Mb ∧ b ≠ pb ∧ N ≤ pb
  le : base ≤ w.heap.size
structure St (B : KB) (bk b pb Mb N base n : Nat) (w : World) (v : Value) (l : List NR) (rows : List Value) (ss : List Nat) : Prop where
  box : w.heap[Mb]? = some (.cells (makA B.nv bk b pb v) 144 (0, 0))
  nodes : w.ownsRow base 41 3 v l.length (flatN l rows)
  rest : StR B bk b pb Mb N base n w l rows ss

/-- so many nodes come for a set of so many sorts -/
def cB (n : Nat) : Nat := if n = 0 then 1 else 3 * n - 2

theorem endOf_result (tmps : Array Value) (W : World) (rc : Nat) (x y z : Value) (ht : tmps[2]? = some (.pointer (some ⟨rc, 0, none⟩))) (h0 : W.cell? ⟨rc, 0, none⟩ = some x) (h1 : W.cell? ⟨rc, 1, none⟩ = some y) (h2 : W.cell? ⟨rc, 2, none⟩ = some z) : (results Try.f158 tmps).run Try.prog W = .ok (.agg #[x, y, z]) W := by
  simp [results, Try.results158, go_sem, ht, h0, h1, h2]
theorem two_mid {W : World} {g : Nat} {a b c x : Value} {T : TypeId} (h : W.heap[g]? = some (Obj.cells #[a, b, c] T (0, 0))) : (W.setCell ⟨g, 1, none⟩ x).heap[g]? = some (Obj.cells #[a, x, c] T (0, 0)) := by
  simp [World.setCell, Array.getElem?_modify, h]
theorem three_st {W : World} {g : Nat} {a b c x y z : Value} {T : TypeId} (h : W.heap[g]? = some (Obj.cells #[a, b, c] T (0, 0))) : (((W.setCell ⟨g, 0, none⟩ x).setCell ⟨g, 1, none⟩ y).setCell ⟨g, 2, none⟩ z).heap[g]? = some (Obj.cells #[x, y, z] T (0, 0)) := by
  simp [World.setCell, Array.getElem?_modify, h]
def lastTo (L : List Nat) (k : Nat) : Int := (ints (L.take k)).getLastD (-1)
theorem lastTo_succ {L : List Nat} {k x : Nat} (h : L[k]? = some x) : lastTo L (k + 1) = x := by
  unfold lastTo
  rw [List.take_add_one, h]
  simp [ints]
theorem lastTo_all (L : List Nat) : lastTo L L.length = (ints L).getLastD (-1) := by unfold lastTo; rw [List.take_length]

set_option maxRecDepth 100000 in
set_option maxHeartbeats 1600000 in
theorem endOfK_any (s : Nat) (hs : s < 256) (w : World) :
    Calls Try.prog 158 #[.int .u64 s] w fun e w' => e = .returned (.agg #[.int .i64 (-1), .int .i64 (endSort s), .slice none 0 0]) ∧ Below w.heap.size w w' := by
  have HL := Lib.hid (setList_any s hs)
  have HM : Hid (elems s = ints (mems s)) := (mems_elems s).symm
  have hml := mems_len s
  obtain ⟨L, hL⟩ : ∃ L, mems s = L := ⟨_, rfl⟩
  have HES : Hid (endSort s = lastTo L L.length) := by unfold Hid endSort; rw [hL, lastTo_all]
  rw [hL] at HM hml
  obtain ⟨ws, hws, HB, hsz, hsz1, k0, k1⟩ := box2 w (.cells #[.int .i64 0, .int .i64 0, .slice none 0 0] 41) (.cells #[.int .i64 (-1), .int .i64 (-1), .slice none 0 0] 41)
  have HK0 := Lib.hid k0
  have HK1 := Lib.hid k1
  have HWS := Lib.hid hws
  clear hL k0 k1 hws
  go_enter Try.func158, Try.ntmps158
  go_wp2_with (go_at_call 91; (try rw [HWS.out]); refine (HL.out _).mono ?_; rw [HM.out]; rintro e w2 ⟨v2, rfl, ho2, hb2⟩; obtain ⟨ao2, co2, hv2⟩ := own_form ho2; rw [ints_len] at hv2; subst hv2; have HO2 := Lib.hid ho2; have HB2 := Lib.hid hb2; clear ho2 hb2)
  have HI2 : Hid (IntsAt w2.heap.size w2 (.slice ao2 L.length co2) L.length (fun i => (ints L).getD i 0)) := by
    have h := HO2.out.ints (by rw [ints_len]; omega)
    rw [ints_len] at h; exact h
  have HG1 : Hid (w2.heap[w.heap.size + 1]? = some (.cells #[.int .i64 (-1), .int .i64 (lastTo L 0), .slice none 0 0] 41 (0, 0))) := (HB2.out.block _ hsz1).trans HK1.out
  have HG0 : Hid (w2.heap[w.heap.size]? = some (.cells #[.int .i64 0, .int .i64 0, .slice none 0 0] 41 (0, 0))) := (HB2.out.block _ hsz).trans HK0.out
  have HB02 : Hid (Below w.heap.size w w2) := fin HB.out HB2.out
  have hw2 : w.heap.size + 1 < w2.heap.size := heap_lt HG1.out
  have HLO : Hid (∀ j, (Value.slice ao2 L.length co2).ownBlock = some j → w.heap.size + 1 < j) := fun j e => by have := (HO2.out.lt j e).1; omega
  clear HWS HB HK0 HK1 hsz hsz1 HO2
  go_loopw [10] (fun i wr => ∃ k : Nat, k ≤ L.length ∧ i = .int .i64 k ∧ Hid (wr.heap[w.heap.size + 1]? = some (.cells #[.int .i64 (-1), .int .i64 (lastTo L k), .slice none 0 0] 41 (0, 0))) ∧ Hid (wr.heap[w.heap.size]? = some (.cells #[.int .i64 0, .int .i64 0, .slice none 0 0] 41 (0, 0))) ∧ Hid (Below w.heap.size w wr) ∧ Hid (∀ j, j < w2.heap.size → j ≠ w.heap.size + 1 → wr.heap[j]? = w2.heap[j]?)) (fun i _ => L.length - (intOf i).toNat)
  case atStart => exact ⟨0, Nat.zero_le _, rfl, HG1, HG0, HB02, fun _ _ _ => rfl⟩
  case round =>
  obtain ⟨k, hk, rfl, HC1, HC0, HBr, HKR⟩ := hrel
  have c0 := cell_blk HC1.out 0 rfl
  have c1 := cell_blk HC1.out 1 rfl
  have c2 := cell_blk HC1.out 2 rfl
  have f1 := frozen_blk HC1.out 1
  by_cases hkn : k < L.length
  · have hki : (k : Int) < (L.length : Int) := by omega
    obtain ⟨x, hx⟩ : ∃ x, L[k]? = some x := ⟨_, List.getElem?_eq_getElem hkn⟩
    have HLS := Lib.hid (lastTo_succ hx)
    have hgx : (ints L).getD k 0 = (x : Int) := by simp [ints, List.getD, hx]
    obtain ⟨bb, ob, rfl, hbb, hcc⟩ := HI2.out.cells (by omega)
    have ck := hcc k hkn
    rw [hgx] at ck
    have hbe := HLO.out bb rfl
    have ckr : wr.cell? ⟨bb, ob + k, none⟩ = some (.int .i64 (x : Int)) := (World.cell?_of_block (a := ⟨bb, ob + k, none⟩) (HKR.out bb hbb (by omega))).trans ck
    have HKN := Lib.hid hkn
    have hbn := HBr.out.setCell (p := ⟨w.heap.size + 1, 1, none⟩) (Nat.le_succ _) (.int .i64 (x : Int))
    have h1 := two_mid (x := .int .i64 (x : Int)) HC1.out
    have h0 : (wr.setCell ⟨w.heap.size + 1, 1, none⟩ (.int .i64 (x : Int))).heap[w.heap.size]? = _ := (Below.heap_setCell _ _ _ _ (by show w.heap.size ≠ w.heap.size + 1; omega)).trans HC0.out
    have HN1 := Lib.hid h1
    have HN0 := Lib.hid h0
    have HNB := Lib.hid hbn
    have HNR : Hid (∀ j, j < w2.heap.size → j ≠ w.heap.size + 1 → (wr.setCell ⟨w.heap.size + 1, 1, none⟩ (.int .i64 (x : Int))).heap[j]? = w2.heap[j]?) := fun j h1 h2 => (Below.heap_setCell _ _ _ _ (by show j ≠ w.heap.size + 1; exact h2)).trans (HKR.out j h1 h2)
    clear hkn hk hx hgx hcc ck h1 h0 hbn
    go_wp2
    go_roundw
    case rel => first | exact ⟨k + 1, HKN.out, by go_num, by rw [HLS.out]; exact HN1, HN0, HNB, HNR⟩ | exact ⟨k + 1, HKN.out, by go_num⟩
    case measure => simp [intOf]; have := HKN.out; omega
  · have hki : ¬ (k : Int) < (L.length : Int) := by omega
    have hke : k = L.length := by omega
    have d0 := cell_blk HC0.out 0 rfl
    have d1 := cell_blk HC0.out 1 rfl
    have d2 := cell_blk HC0.out 2 rfl
    have fd := frozen_blk HC0.out
    rw [hke] at HC1 c1
    clear hkn hk
    go_wp2
    have hh := three_st (x := .int .i64 (-1)) (y := .int .i64 (lastTo L L.length)) (z := .slice none 0 0) HC0.out
    refine bodyPost_ret (endOf_result _ _ w.heap.size _ _ _ rfl (cell_blk hh 0 rfl) (cell_blk hh 1 rfl) (cell_blk hh 2 rfl)) rfl ⟨by rw [HES.out]; rfl, ?_⟩
    exact ((HBr.out.setCell (p := ⟨w.heap.size, 0, none⟩) (Nat.le_refl _) _).setCell (p := ⟨w.heap.size, 1, none⟩) (Nat.le_refl _) _).setCell (p := ⟨w.heap.size, 2, none⟩) (Nat.le_refl _) _

end Go.Proofs.Ytghimbggbgcgkaa
