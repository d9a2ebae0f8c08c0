/-
  Works: contracts of the functions that its theorems name.
-/
import Derived.Test.YtopajgnemeodeaaMarks
import Derived.Test.YtopajgnemeodeaaApart
import Derived.ArgAppend
namespace Go.Proofs.Ytopajgnemeodeaa
open Go.RowKit

def exB : Bk :=
  ⟨3, fun i => match i with | 0 => 2 | 1 => 3 | _ => 3, 3, fun i => match i with | 1 => 1 | _ => 0, 3, fun _ => 3,
    fun s i => match s, i with | 0, 1 => 2 | 1, 0 => 2 | 1, 2 => 2 | 2, 2 => 2 | _, _ => 1,
    fun s i k => match s, i, k with | 0, 1, 1 => 1 | 1, 0, 1 => 1 | 1, 1, _ => 1 | 1, 2, 0 => 1 | 1, 2, _ => 2 | 2, 0, _ => 1 | 2, 1, _ => 2 | 2, 2, 1 => 1 | _, _, _ => 0, 1⟩
def exR : Fr := ⟨2, fun _ => 3, fun f i => match f, i with | 0, 2 => -1 | 1, 1 => 1 | _, _ => 0⟩

def allocs (w : World) : List Obj → World
  | [] => w
  | o :: os => allocs (w.alloc o) os
theorem allocs_size (os : List Obj) : ∀ w : World, (allocs w os).heap.size = w.heap.size + os.length := by
  induction os with
  | nil => intro w; rfl
  | cons o os ih => intro w; rw [allocs, ih]; simp; omega
theorem allocs_below (os : List Obj) : ∀ w : World, Below w.heap.size w (allocs w os) := by
  induction os with
  | nil => intro w; exact Below.refl _ _
  | cons o os ih => intro w; exact (below_alloc (Nat.le_refl _) o).trans ((ih (w.alloc o)).mono (by simp))
theorem allocs_at (os : List Obj) : ∀ (w : World) (i : Nat) (o : Obj), os[i]? = some o → (allocs w os).heap[w.heap.size + i]? = some o := by
  induction os with
  | nil => intro w i o h; simp at h
  | cons o' os ih =>
    intro w i o h
    cases i with
    | zero =>
      simp at h; subst h
      rw [allocs, Nat.add_zero, (allocs_below os (w.alloc o')).block _ (by simp)]
      exact World.alloc_heap_new _ _
    | succ i =>
      have := ih (w.alloc o') i o (by simpa using h)
      rw [World.size_alloc] at this
      rw [allocs]
      rwa [show w.heap.size + (i + 1) = w.heap.size + 1 + i by omega]

def exObjs (n : Nat) : List Obj := [
  .cells #[.slice (some ⟨(n + 1), 0, none⟩) 3 3, .slice (some ⟨(n + 1 + 1), 0, none⟩) 3 3, .slice (some ⟨(n + 1 + 1 + 1 + 1 + 1 + 1 + 1 + 1 + 1 + 1 + 1 + 1 + 1 + 1 + 1), 0, none⟩) 3 3, .int .i64 1] 25,
  .cells #[.int .i64 2, .int .i64 3, .int .i64 3] 3,
  .cells #[.int .i64 0, .int .i64 1, .int .i64 0] 3,
  .cells #[.int .i64 0] 3,
  .cells #[.int .i64 0, .int .i64 1] 3,
  .cells #[.int .i64 0] 3,
  .cells #[.slice (some ⟨(n + 1 + 1 + 1), 0, none⟩) 1 1, .slice (some ⟨(n + 1 + 1 + 1 + 1), 0, none⟩) 2 2, .slice (some ⟨(n + 1 + 1 + 1 + 1 + 1), 0, none⟩) 1 1] 22,
  .cells #[.int .i64 0, .int .i64 1] 3,
  .cells #[.int .i64 1] 3,
  .cells #[.int .i64 1, .int .i64 2] 3,
  .cells #[.slice (some ⟨(n + 1 + 1 + 1 + 1 + 1 + 1 + 1), 0, none⟩) 2 2, .slice (some ⟨(n + 1 + 1 + 1 + 1 + 1 + 1 + 1 + 1), 0, none⟩) 1 1, .slice (some ⟨(n + 1 + 1 + 1 + 1 + 1 + 1 + 1 + 1 + 1), 0, none⟩) 2 2] 22,
  .cells #[.int .i64 1] 3,
  .cells #[.int .i64 2] 3,
  .cells #[.int .i64 0, .int .i64 1] 3,
  .cells #[.slice (some ⟨(n + 1 + 1 + 1 + 1 + 1 + 1 + 1 + 1 + 1 + 1 + 1), 0, none⟩) 1 1, .slice (some ⟨(n + 1 + 1 + 1 + 1 + 1 + 1 + 1 + 1 + 1 + 1 + 1 + 1), 0, none⟩) 1 1, .slice (some ⟨(n + 1 + 1 + 1 + 1 + 1 + 1 + 1 + 1 + 1 + 1 + 1 + 1 + 1), 0, none⟩) 2 2] 22,
  .cells #[.slice (some ⟨(n + 1 + 1 + 1 + 1 + 1 + 1), 0, none⟩) 3 3, .slice (some ⟨(n + 1 + 1 + 1 + 1 + 1 + 1 + 1 + 1 + 1 + 1), 0, none⟩) 3 3, .slice (some ⟨(n + 1 + 1 + 1 + 1 + 1 + 1 + 1 + 1 + 1 + 1 + 1 + 1 + 1 + 1), 0, none⟩) 3 3] 73,
  .cells #[.int .i64 0, .int .i64 0, .int .i64 (-1)] 3,
  .cells #[.int .i64 0, .int .i64 1, .int .i64 0] 3,
  .cells #[.slice (some ⟨(n + 1 + 1 + 1 + 1 + 1 + 1 + 1 + 1 + 1 + 1 + 1 + 1 + 1 + 1 + 1 + 1), 0, none⟩) 3 3, .slice (some ⟨(n + 1 + 1 + 1 + 1 + 1 + 1 + 1 + 1 + 1 + 1 + 1 + 1 + 1 + 1 + 1 + 1 + 1), 0, none⟩) 3 3] 22]

theorem list_blk {N : Nat} {W : World} {b n c : Nat} {cs : Array Value} {t : TypeId} {E : Nat → Value → Prop} (h : W.heap[b]? = some (.cells cs t)) (hb : b < N) (hn : n ≤ 140737488351232) (hc : ∀ i, i < n → ∃ r, cs[i]? = some r ∧ E i r) : ListAt N W E (.slice (some ⟨b, 0, none⟩) n c) n :=
  ⟨_, c, rfl, hn, fun _ => ⟨b, 0, rfl, hb, fun i hi => by
    obtain ⟨r, h1, h2⟩ := hc i hi
    exact ⟨r, by rw [Nat.zero_add]; exact cell_blk h i h1, h2⟩⟩⟩

/-- the example: a book, fruits -/
def GivesEx (w : World) (e : Ending) (w' : World) : Prop := ∃ v a g r0 r1, e = .returned (.tuple #[v, .slice (some ⟨g, 0, none⟩) 2 2]) ∧ v = .agg a ∧ BookAt w'.heap.size w' v exB ∧ FruitsAt w'.heap.size w' (.slice (some ⟨g, 0, none⟩) 2 2) exR ∧
  w'.ownsRow w.heap.size 22 1 (.slice (some ⟨g, 0, none⟩) 2 2) 2 [r0, r1] ∧ IntsAt w'.heap.size w' r0 3 (exR.X 0) ∧ IntsAt w'.heap.size w' r1 3 (exR.X 1) ∧ Below w.heap.size w w'

set_option maxHeartbeats 4000000 in
set_option maxRecDepth 100000 in
theorem example_any (w : World) : Calls Try.prog 61 #[] w (GivesEx w) := by
  go_enter Try.func61, Try.ntmps61
  go_wp2
  change bodyPost _ _ _ _ _ (allocs w (exObjs w.heap.size))
  have hc := cell_blk (allocs_at (exObjs w.heap.size) w 0 _ rfl)
  have h0 := hc 0 rfl
  have h1 := hc 1 rfl
  have h2 := hc 2 rfl
  have h3 := hc 3 rfl
  rw [Nat.add_zero] at h0 h1 h2 h3
  refine bodyPost_ret (v := .tuple #[.agg #[.slice (some ⟨w.heap.size + 1, 0, none⟩) 3 3, .slice (some ⟨w.heap.size + 1 + 1, 0, none⟩) 3 3, .slice (some ⟨w.heap.size + 1 + 1 + 1 + 1 + 1 + 1 + 1 + 1 + 1 + 1 + 1 + 1 + 1 + 1 + 1, 0, none⟩) 3 3, .int .i64 1], .slice (some ⟨w.heap.size + 1 + 1 + 1 + 1 + 1 + 1 + 1 + 1 + 1 + 1 + 1 + 1 + 1 + 1 + 1 + 1 + 1 + 1, 0, none⟩) 2 2]) (by simp [results, Try.results61, go_sem, h0, h1, h2, h3]) rfl ?_
  have k0 := allocs_at (exObjs w.heap.size) w 0 _ rfl
  have k1 := allocs_at (exObjs w.heap.size) w 1 _ rfl
  have k2 := allocs_at (exObjs w.heap.size) w 2 _ rfl
  have k3 := allocs_at (exObjs w.heap.size) w 3 _ rfl
  have k4 := allocs_at (exObjs w.heap.size) w 4 _ rfl
  have k5 := allocs_at (exObjs w.heap.size) w 5 _ rfl
  have k6 := allocs_at (exObjs w.heap.size) w 6 _ rfl
  have k7 := allocs_at (exObjs w.heap.size) w 7 _ rfl
  have k8 := allocs_at (exObjs w.heap.size) w 8 _ rfl
  have k9 := allocs_at (exObjs w.heap.size) w 9 _ rfl
  have k10 := allocs_at (exObjs w.heap.size) w 10 _ rfl
  have k11 := allocs_at (exObjs w.heap.size) w 11 _ rfl
  have k12 := allocs_at (exObjs w.heap.size) w 12 _ rfl
  have k13 := allocs_at (exObjs w.heap.size) w 13 _ rfl
  have k14 := allocs_at (exObjs w.heap.size) w 14 _ rfl
  have k15 := allocs_at (exObjs w.heap.size) w 15 _ rfl
  have k16 := allocs_at (exObjs w.heap.size) w 16 _ rfl
  have k17 := allocs_at (exObjs w.heap.size) w 17 _ rfl
  have k18 := allocs_at (exObjs w.heap.size) w 18 _ rfl
  have hsz := allocs_size (exObjs w.heap.size) w
  rw [show (exObjs w.heap.size).length = 19 from rfl] at hsz
  have hbel := allocs_below (exObjs w.heap.size) w
  generalize allocs w (exObjs w.heap.size) = W at *
  clear hc h0 h1 h2 h3
  have i3 := (list_blk (n := 1) (c := 1) k3 (by omega) (by omega) (fun i hi => ⟨_, by rcases i with _ | _ | _ | i <;> first | rfl | omega, rfl⟩) : IntsAt W.heap.size W (.slice (some ⟨w.heap.size + 3, 0, none⟩) 1 1) 1 (exB.can 0 0))
  have i4 := (list_blk (n := 2) (c := 2) k4 (by omega) (by omega) (fun i hi => ⟨_, by rcases i with _ | _ | _ | i <;> first | rfl | omega, rfl⟩) : IntsAt W.heap.size W (.slice (some ⟨w.heap.size + 4, 0, none⟩) 2 2) 2 (exB.can 0 1))
  have i5 := (list_blk (n := 1) (c := 1) k5 (by omega) (by omega) (fun i hi => ⟨_, by rcases i with _ | _ | _ | i <;> first | rfl | omega, rfl⟩) : IntsAt W.heap.size W (.slice (some ⟨w.heap.size + 5, 0, none⟩) 1 1) 1 (exB.can 0 2))
  have s6 : RowsAt W.heap.size W (.slice (some ⟨w.heap.size + 6, 0, none⟩) 3 3) (exB.nc 0) (exB.ncc 0) (exB.can 0) := list_blk (n := 3) (c := 3) k6 (by omega) (by omega) (fun i hi => by
      rcases i with _ | _ | _ | i
      · exact ⟨_, rfl, i3⟩
      · exact ⟨_, rfl, i4⟩
      · exact ⟨_, rfl, i5⟩
      · omega)
  have i7 := (list_blk (n := 2) (c := 2) k7 (by omega) (by omega) (fun i hi => ⟨_, by rcases i with _ | _ | _ | i <;> first | rfl | omega, rfl⟩) : IntsAt W.heap.size W (.slice (some ⟨w.heap.size + 7, 0, none⟩) 2 2) 2 (exB.can 1 0))
  have i8 := (list_blk (n := 1) (c := 1) k8 (by omega) (by omega) (fun i hi => ⟨_, by rcases i with _ | _ | _ | i <;> first | rfl | omega, rfl⟩) : IntsAt W.heap.size W (.slice (some ⟨w.heap.size + 8, 0, none⟩) 1 1) 1 (exB.can 1 1))
  have i9 := (list_blk (n := 2) (c := 2) k9 (by omega) (by omega) (fun i hi => ⟨_, by rcases i with _ | _ | _ | i <;> first | rfl | omega, rfl⟩) : IntsAt W.heap.size W (.slice (some ⟨w.heap.size + 9, 0, none⟩) 2 2) 2 (exB.can 1 2))
  have s10 : RowsAt W.heap.size W (.slice (some ⟨w.heap.size + 10, 0, none⟩) 3 3) (exB.nc 1) (exB.ncc 1) (exB.can 1) := list_blk (n := 3) (c := 3) k10 (by omega) (by omega) (fun i hi => by
      rcases i with _ | _ | _ | i
      · exact ⟨_, rfl, i7⟩
      · exact ⟨_, rfl, i8⟩
      · exact ⟨_, rfl, i9⟩
      · omega)
  have i11 := (list_blk (n := 1) (c := 1) k11 (by omega) (by omega) (fun i hi => ⟨_, by rcases i with _ | _ | _ | i <;> first | rfl | omega, rfl⟩) : IntsAt W.heap.size W (.slice (some ⟨w.heap.size + 11, 0, none⟩) 1 1) 1 (exB.can 2 0))
  have i12 := (list_blk (n := 1) (c := 1) k12 (by omega) (by omega) (fun i hi => ⟨_, by rcases i with _ | _ | _ | i <;> first | rfl | omega, rfl⟩) : IntsAt W.heap.size W (.slice (some ⟨w.heap.size + 12, 0, none⟩) 1 1) 1 (exB.can 2 1))
  have i13 := (list_blk (n := 2) (c := 2) k13 (by omega) (by omega) (fun i hi => ⟨_, by rcases i with _ | _ | _ | i <;> first | rfl | omega, rfl⟩) : IntsAt W.heap.size W (.slice (some ⟨w.heap.size + 13, 0, none⟩) 2 2) 2 (exB.can 2 2))
  have s14 : RowsAt W.heap.size W (.slice (some ⟨w.heap.size + 14, 0, none⟩) 3 3) (exB.nc 2) (exB.ncc 2) (exB.can 2) := list_blk (n := 3) (c := 3) k14 (by omega) (by omega) (fun i hi => by
      rcases i with _ | _ | _ | i
      · exact ⟨_, rfl, i11⟩
      · exact ⟨_, rfl, i12⟩
      · exact ⟨_, rfl, i13⟩
      · omega)
  have s15 : SortsAt W.heap.size W (.slice (some ⟨w.heap.size + 15, 0, none⟩) 3 3) exB.ns exB.nc exB.ncc exB.can := list_blk (n := 3) (c := 3) k15 (by omega) (by omega) (fun i hi => by
      rcases i with _ | _ | _ | i
      · exact ⟨_, rfl, s6⟩
      · exact ⟨_, rfl, s10⟩
      · exact ⟨_, rfl, s14⟩
      · omega)
  have i1 := (list_blk (n := 3) (c := 3) k1 (by omega) (by omega) (fun i hi => ⟨_, by rcases i with _ | _ | _ | i <;> first | rfl | omega, rfl⟩) : IntsAt W.heap.size W (.slice (some ⟨w.heap.size + 1, 0, none⟩) 3 3) 3 (exB.V))
  have i2 := (list_blk (n := 3) (c := 3) k2 (by omega) (by omega) (fun i hi => ⟨_, by rcases i with _ | _ | _ | i <;> first | rfl | omega, rfl⟩) : IntsAt W.heap.size W (.slice (some ⟨w.heap.size + 2, 0, none⟩) 3 3) 3 (exB.F))
  have i16 := (list_blk (n := 3) (c := 3) k16 (by omega) (by omega) (fun i hi => ⟨_, by rcases i with _ | _ | _ | i <;> first | rfl | omega, rfl⟩) : IntsAt W.heap.size W (.slice (some ⟨w.heap.size + 16, 0, none⟩) 3 3) 3 (exR.X 0))
  have i17 := (list_blk (n := 3) (c := 3) k17 (by omega) (by omega) (fun i hi => ⟨_, by rcases i with _ | _ | _ | i <;> first | rfl | omega, rfl⟩) : IntsAt W.heap.size W (.slice (some ⟨w.heap.size + 17, 0, none⟩) 3 3) 3 (exR.X 1))
  have f18 : FruitsAt W.heap.size W (.slice (some ⟨w.heap.size + 18, 0, none⟩) 2 2) exR := list_blk (n := 2) (c := 2) k18 (by omega) (by omega) (fun i hi => by
      rcases i with _ | _ | i
      · exact ⟨_, rfl, i16⟩
      · exact ⟨_, rfl, i17⟩
      · omega)
  exact ⟨_, _, _, _, _, rfl, rfl, ⟨Nat.le_refl _, _, _, _, _, _, _, rfl, i1, i2, s15⟩, f18, ⟨rfl, .inr ⟨_, 2, _, rfl, by omega, k18, Nat.le_refl _, by decide, rfl, rfl⟩⟩, i16, i17, hbel⟩

end Go.Proofs.Ytopajgnemeodeaa

namespace Go.Proofs.Ytopajgnemeodeaa
open Go.RowKit

def exH : Fr := ⟨3, fun _ => 3, fun f i => match f, i with | 0, 2 => -1 | 1, 1 => 1 | _, _ => 0⟩
def exG : Fr := ⟨1, fun _ => 3, fun _ i => match i with | 0 => 0 | _ => -1⟩

theorem ex1 : eWrong exB exR 1 = (2, 0) := by decide +kernel
theorem ex2 : eValues exB exR ((0 : Nat) : Int) ((1 : Nat) : Int) = ([0, 1], 0) := by decide +kernel
theorem ex3 : eMistakes exB exH = ([(1, 1)], 0) := by decide +kernel
theorem ex4 : eAfter exB exG ((0 : Nat) : Int) ((1 : Nat) : Int) = (3, 0) := by decide +kernel
theorem ex5 : eApart exB ((0 : Nat) : Int) ((2 : Nat) : Int) = ([0, 1], 0) := by decide +kernel

theorem wp_append_grows {P : Program} (w : World) {o : Oper} {a : Act} {K : Act → World → Prop} {Q : Exit → Act → World → Prop}
    (s x : Operand) (t : TypeId) (hop : o.op = Op.call { callee := Callee.builtin Builtin.append, args := #[s, x], argTypes := #[t, t] })
    (e : TypeId) (i : TypeInfo) (z : Value) (size bytes : Nat) (h1 : P.underlying t = some (.slice e)) (h2 : P.info? e = some i) (h3 : i.zero = some z) (h4 : i.size = size) (h5 : i.bytes = bytes) (h6 : z.cells.size = size) (h7 : 0 < size)
    (b : Addr) (n cap : Nat) (olds : List Value) (hs : a.eval s = .slice (some b) n cap) (hlo : olds.length = n * size) (holds : ∀ j u, olds[j]? = some u → w.cell? (b.add j) = some u)
    (ad : Addr) (m c : Nat) (news : List Value) (hx : a.eval x = .slice (some ad) m c) (hn : news.length = m * size) (hc : ∀ j u, news[j]? = some u → w.cell? (ad.add j) = some u) (h1c : ∀ u ∈ news, u.oneCell' = true)
    (hfull : cap < n + m) (b1 : n + m ≤ maxLen) (b2 : (n + m) * bytes ≤ 140737488355328)
    (hK : ∀ v' w', w'.ownsRow w.heap.size e size v' (n + m) (olds ++ news) → w.grownBy w' none → K (a.put o.dst v') w') : o.wp P a w K Q := by
  obtain ⟨v', w', hrun, r1, r2⟩ := run_append_arg_grows (P := P) w t o.type e i z size bytes h1 h2 h3 h4 h5 h6 h7 b n cap olds hlo holds ad m c news hn hc hfull b1 b2
  unfold Oper.wp
  simp [execOp, hop, resolve, invoke, builtin, hs, hx, hrun, Result.andThen]
  exact hK v' w' r1 r2

theorem grown_below {w w' : World} (h : w.grownBy w' none) : Below w.heap.size w w' := (Below.refl _ _).grown h (Nat.le_refl _) (fun k e => by cases e)

theorem same01_any (w0 w : World) (N : Nat) (au : Option Addr) (cu : Nat) (h : OwnI N w0 (.slice au 2 cu) [0, 1]) (hb : Below w0.heap.size w0 w) :
    Calls Try.prog 30 #[.slice au 2 cu, .slice (some ⟨w.heap.size, 0, none⟩) 2 2] (w.alloc (.cells #[.int .i64 0, .int .i64 1] 3)) fun e w' => e = .returned (.bool true) ∧ Below w.heap.size w w' := by
  have h1 : IntsAt (w.heap.size + 1) (w.alloc (.cells #[.int .i64 0, .int .i64 1] 3)) (.slice au 2 cu) 2 (fun i => [(0 : Int), 1].getD i 0) :=
    IntsAt.mono (h.ints (by decide)) (hb.trans (below_alloc hb.size _)) (Nat.le_succ_of_le hb.size)
  have h2 : IntsAt (w.heap.size + 1) (w.alloc (.cells #[.int .i64 0, .int .i64 1] 3)) (.slice (some ⟨w.heap.size, 0, none⟩) 2 2) 2 (fun i => [(0 : Int), 1].getD i 0) :=
    list_blk (World.alloc_heap_new _ _) (Nat.lt_succ_self _) (by decide) (fun i hi => ⟨_, by rcases i with _ | _ | i <;> first | rfl | omega, rfl⟩)
  refine (sameInts_any _ _ _ 2 2 _ _ _ h1 h2).mono ?_
  rintro e w' ⟨rfl, q, rfl⟩
  have e1 : sameI 2 (fun i => [(0 : Int), 1].getD i 0) 2 (fun i => [(0 : Int), 1].getD i 0) = true := by decide +kernel
  have b1 := below_drewN (below_alloc (Nat.le_refl w.heap.size) (.cells #[.int .i64 0, .int .i64 1] 3)) q
  refine ⟨?_, b1⟩
  rw [e1]

set_option maxHeartbeats 4000000 in
set_option maxRecDepth 100000 in
theorem works_any (w : World) : Calls Try.prog 15 #[] w fun e w' => e = .returned (.bool true) ∧ Below w.heap.size w w' := by
  go_enter Try.func15, Try.ntmps15
  go_wp2_with (first
    | (go_at_call 61; refine (example_any _).mono ?_; rintro e w1 ⟨v, a, g, r0, r1, rfl, rfl, hb, hf, ho, hr0, hr1, hB1⟩; obtain ⟨hle, a1, c1, a2, c2, a3, c3, eq, g1, g2, g3⟩ := id hb; cases eq; have HBK : Hid _ := Lib.hid hb; have HFR : Hid _ := Lib.hid hf; have HO : Hid _ := Lib.hid ho; have HR0 : Hid _ := Lib.hid hr0; have HR1 : Hid _ := Lib.hid hr1; have HB1 : Hid _ := Lib.hid hB1; clear hb hf ho hr0 hr1 hB1 g1 g2 g3)
    | (go_at_call 20; refine (mWrong_any _ _ _ exB exR 1 _ (HBK.out.in_alloc _) (RowsAt.mono HFR.out (below_alloc (Nat.le_refl _) _) (Nat.le_refl _))).mono ?_; rintro e w2 ⟨rfl, hb2⟩; rw [ex1]; have ch2 := chain (chain0 _ _) hb2; have q0 := box_cell ch2 0 rfl; have q1 := box_cell ch2 1 rfl; have q2 := box_cell ch2 2 rfl; have q3 := box_cell ch2 3 rfl; clear hb2)
    | (go_at_call 31; refine (mValues_any _ _ _ exB exR ((0 : Nat) : Int) ((1 : Nat) : Int) _ (HBK.out.chain ch2) (RowsAt.chain HFR.out (Nat.le_refl _) ch2)).mono ?_; rintro e w3 ⟨u, rfl, hu, hb3⟩; rw [ex2] at hu; rw [ex2]; have ch3 := chain ch2 hb3; have q0 := box_cell ch3 0 rfl; have q1 := box_cell ch3 1 rfl; have q2 := box_cell ch3 2 rfl; have q3 := box_cell ch3 3 rfl; obtain ⟨au, cu, rfl⟩ := hu.form; have HU : Hid _ := Lib.hid hu; clear hu hb3))
  obtain ⟨i0, hi, hz0, hz1, hz2⟩ := info_parts Try.infoInts
  have hle3 : w1.heap.size < w3.heap.size := size_of ch3
  have HOW3 : Hid (w3.ownsRow w.heap.size 22 1 (.slice (some ⟨g, 0, none⟩) 2 2) 2 [r0, r1]) := own_below HO.out (below_of ch3)
  have hS0 : (∀ b o, b < w3.heap.size → w3.drew.cell? ⟨b, o, none⟩ = w3.cell? ⟨b, o, none⟩) ∧ Hid (Below w3.heap.size w3 (w3.drew)) := ⟨fun _ _ _ => rfl, (Below.refl _ _).drew⟩
  refine wp_region_held_drew (S := fun w' => (∀ b o, b < w3.heap.size → w'.cell? ⟨b, o, none⟩ = w3.cell? ⟨b, o, none⟩) ∧ Hid (Below w3.heap.size w3 (w'))) (by kernel_rfl) hS0 (fun hHeld => ?_)
  (refine wpAnyH_take (i := 0) (v := ?_) rfl (by kernel_rfl) (by kernel_rfl) (by kernel_rfl) (fun _ _ _ h => h) (Or.inl ⟨by rfl, ?_⟩) (by assumption) ?_; rotate_left; (focus (intro w hSw; (try dsimp only at hSw); go_simp; (try with_reducible rfl))); (try simp only [List.getElem_toArray, List.getElem_cons_zero, List.getElem_cons_succ, Act.put, List.setIfInBounds_toArray, List.set_cons_zero, List.set_cons_succ]))
  (refine wpAnyH_take (i := 1) (v := ?_) rfl (by kernel_rfl) (by kernel_rfl) (by kernel_rfl) (fun _ _ _ h => h) (Or.inl ⟨by rfl, ?_⟩) (by assumption) ?_; rotate_left; (focus (intro w hSw; (try dsimp only at hSw); go_simp; (try with_reducible rfl))); (try simp only [List.getElem_toArray, List.getElem_cons_zero, List.getElem_cons_succ, Act.put, List.setIfInBounds_toArray, List.set_cons_zero, List.set_cons_succ]))
  refine wpAnyH_ready (rs := [2]) (by kernel_rfl) (by simp) ?_
  refine AllReadyH.cons rfl (fun K hK => ?_) AllReadyH.nil
  go_simp
  obtain ⟨w4, hw4⟩ : ∃ w4 : World, (w3.alloc (.cells #[.int .i64 0, .int .i64 0, .int .i64 0] 3)).drew = w4 := ⟨_, rfl⟩
  have hB4 : Below w3.heap.size w3 w4 := by rw [← hw4]; exact (below_alloc (Nat.le_refl _) _).drew
  have hsz4 : w4.heap.size = w3.heap.size + 1 := by rw [← hw4]; simp
  have hn4 : w4.heap[w3.heap.size]? = some (.cells #[.int .i64 0, .int .i64 0, .int .i64 0] 3) := by rw [← hw4]; exact World.alloc_heap_new _ _
  rw [hw4]
  have S4 : (∀ b o, b < w3.heap.size → w4.cell? ⟨b, o, none⟩ = w3.cell? ⟨b, o, none⟩) ∧ Hid (Below w3.heap.size w3 (w4)) := ⟨fun b o hb => hB4.cell (p := ⟨b, o, none⟩) hb, hB4⟩
  have HSZ4 : Hid _ := Lib.hid hsz4
  clear hw4 hsz4
  refine hK.out _ _ S4 (fun hHeld => ?_)
  clear hK K
  (try simp only [List.getElem_toArray, List.getElem_cons_zero, List.getElem_cons_succ, Act.put, List.setIfInBounds_toArray, List.set_cons_zero, List.set_cons_succ])
  refine wpAnyH_ready (rs := [3]) (by kernel_rfl) (by simp) ?_
  refine AllReadyH.cons rfl (fun K hK => ?_) AllReadyH.nil
  go_simp
  obtain ⟨w5, hw5⟩ : ∃ w5 : World, w4.alloc (.cells #[.slice (some ⟨w3.heap.size, 0, none⟩) 3 3] 22) = w5 := ⟨_, rfl⟩
  have hB5 : Below w4.heap.size w4 w5 := by rw [← hw5]; exact below_alloc (Nat.le_refl _) _
  have hsz5 : w5.heap.size = w4.heap.size + 1 := by rw [← hw5]; simp
  have hn5 : w5.heap[w4.heap.size]? = some (.cells #[.slice (some ⟨w3.heap.size, 0, none⟩) 3 3] 22) := by rw [← hw5]; exact World.alloc_heap_new _ _
  have hB35 : Below w3.heap.size w3 w5 := hB4.trans (hB5.mono hB4.size)
  rw [hw5]
  have S5 : (∀ b o, b < w3.heap.size → w5.cell? ⟨b, o, none⟩ = w3.cell? ⟨b, o, none⟩) ∧ Hid (Below w3.heap.size w3 (w5)) := ⟨fun b o hb => hB35.cell (p := ⟨b, o, none⟩) hb, hB35⟩
  have HSZ5 : Hid _ := Lib.hid hsz5
  clear hw5 hsz5
  refine hK.out _ _ S5 (fun hHeld => ?_)
  clear hK K
  (try simp only [List.getElem_toArray, List.getElem_cons_zero, List.getElem_cons_succ, Act.put, List.setIfInBounds_toArray, List.set_cons_zero, List.set_cons_succ])
  have hown5 := own_below HOW3.out hB35
  refine wpAnyH_ready (rs := [4]) (by kernel_rfl) (by simp) ?_
  refine AllReadyH.cons rfl (fun K hK => ?_) AllReadyH.nil
  rw [if_pos (by rfl)]
  refine wp_append_grows _ _ _ 26 rfl 22 i0 (.slice none 0 0) 1 24 Try.underlying26 hi hz0 hz1 hz2 rfl (by decide) _ _ _ [r0, r1] rfl rfl ?qc0 ⟨w4.heap.size, 0, none⟩ 1 1 [.slice (some ⟨w3.heap.size, 0, none⟩) 3 3] rfl rfl ?qc1 (by simp [Value.oneCell']) (by decide) (by decide) (by decide) ?_
  case qc0 => intro j u hj; rw [addr_add, Nat.zero_add]; exact own_cell hown5 j hj
  case qc1 => intro j u hj; rw [addr_add, Nat.zero_add]; exact cell_blk hn5 j (by simpa using hj)
  intro v6 w6 hown6 hgrow6
  obtain ⟨_, ⟨_, h6⟩ | ⟨g6, cap6, cur6, rfl, hg6, hh6⟩⟩ := id hown6
  · omega
  have hB6 := grown_below hgrow6
  have hB36 : Below w3.heap.size w3 w6 := hB35.trans (hB6.mono hB35.size)
  have S6 : (∀ b o, b < w3.heap.size → w6.cell? ⟨b, o, none⟩ = w3.cell? ⟨b, o, none⟩) ∧ Hid (Below w3.heap.size w3 (w6)) := ⟨fun b o hb => hB36.cell (p := ⟨b, o, none⟩) hb, hB36⟩
  have HOWN6 : Hid _ := Lib.hid hown6
  clear hh6
  refine hK.out _ _ S6 (fun hHeld => ?_)
  clear hK K
  (try simp only [List.getElem_toArray, List.getElem_cons_zero, List.getElem_cons_succ, Act.put, List.setIfInBounds_toArray, List.set_cons_zero, List.set_cons_succ])
  refine wpAnyH_ready (rs := [5]) (by kernel_rfl) (by simp) ?_
  refine AllReadyH.cons rfl (fun K hK => ?_) AllReadyH.nil
  go_simp
  have hB16 : Below w1.heap.size w1 w6 := (below_of ch3).trans (hB36.mono (Nat.le_of_lt hle3))
  have hle6 : w1.heap.size ≤ w6.heap.size := hB16.size
  have hN : IntsAt w6.heap.size w6 (.slice (some ⟨w3.heap.size, 0, none⟩) 3 3) 3 (exH.X 2) :=
    IntsAt.mono (list_blk (N := w4.heap.size) (n := 3) (c := 3) hn4 (by have := HSZ4.out; omega) (by decide) (fun i hi => ⟨_, by rcases i with _ | _ | _ | i <;> first | rfl | omega, rfl⟩) : IntsAt w4.heap.size w4 (.slice (some ⟨w3.heap.size, 0, none⟩) 3 3) 3 (exH.X 2)) (hB5.trans (hB6.mono hB5.size)) (Nat.le_trans hB5.size hB6.size)
  have hFH : FruitsAt w6.heap.size w6 (.slice (some ⟨g6, 0, none⟩) 3 cap6) exH := ⟨_, cap6, rfl, by decide, fun _ => ⟨g6, 0, rfl, (HOWN6.out.lt g6 rfl).2, fun i hi => by
    rw [Nat.zero_add]
    rcases i with _ | _ | _ | i
    · exact ⟨r0, own_cell HOWN6.out 0 rfl, HR0.out.mono hB16 hle6⟩
    · exact ⟨r1, own_cell HOWN6.out 1 rfl, HR1.out.mono hB16 hle6⟩
    · exact ⟨_, own_cell HOWN6.out 2 rfl, hN⟩
    · exact absurd hi (by show ¬ i + 1 + 1 + 1 < 3; omega)⟩⟩
  have HFH : Hid _ := Lib.hid hFH
  clear hFH hN
  go_at_call 33
  refine (mMistakes_any w6.heap.size _ _ exB exH _ (HBK.out.mono hB16 hle6 (Nat.le_refl _)) HFH.out).mono ?_
  rintro e w7 ⟨u7, rfl, hu7, hb7⟩
  rw [ex3] at hu7
  rw [ex3]
  obtain ⟨_, ⟨_, h7⟩ | ⟨g7, cap7, cur7, rfl, hg7, hh7⟩⟩ := id hu7
  · simp at h7
  have m0_7 : w7.cell? ⟨g7, 0, none⟩ = some (.int .i64 1) := by have := World.ownsRow.cells hu7 rfl 0 (.int .i64 1) rfl; rwa [addr_add] at this
  have m1_7 : w7.cell? ⟨g7, 1, none⟩ = some (.int .i64 1) := by have := World.ownsRow.cells hu7 rfl 1 (.int .i64 1) rfl; rwa [addr_add, Nat.zero_add] at this
  have lt7 : g7 < w7.heap.size := (World.ownsRow.lt hu7 g7 rfl).2
  clear hu7 hh7
  have hB37 : Below w3.heap.size w3 w7 := hB36.trans (hb7.mono hB36.size)
  have S7 : (∀ b o, b < w3.heap.size → w7.cell? ⟨b, o, none⟩ = w3.cell? ⟨b, o, none⟩) ∧ Hid (Below w3.heap.size w3 (w7)) := ⟨fun b o hb => hB37.cell (p := ⟨b, o, none⟩) hb, hB37⟩
  refine hK.out _ _ S7 (fun hHeld => ?_)
  clear hK K
  (try simp only [List.getElem_toArray, List.getElem_cons_zero, List.getElem_cons_succ, Act.put, List.setIfInBounds_toArray, List.set_cons_zero, List.set_cons_succ])
  (refine wpAnyH_take (i := 6) (v := ?_) rfl (by kernel_rfl) (by kernel_rfl) (by kernel_rfl) (fun _ _ _ h => h) (Or.inl ⟨by rfl, ?_⟩) (by assumption) ?_; rotate_left; (focus (intro w hSw; (try dsimp only at hSw); go_simp; (try with_reducible rfl))); (try simp only [List.getElem_toArray, List.getElem_cons_zero, List.getElem_cons_succ, Act.put, List.setIfInBounds_toArray, List.set_cons_zero, List.set_cons_succ]))
  (refine wpAnyH_take (i := 7) (v := ?_) rfl (by kernel_rfl) (by kernel_rfl) (by kernel_rfl) (fun _ _ _ h => h) (Or.inl ⟨by rfl, ?_⟩) (by assumption) ?_; rotate_left; (focus (intro w hSw; (try dsimp only at hSw); go_simp; (try with_reducible rfl))); (try simp only [List.getElem_toArray, List.getElem_cons_zero, List.getElem_cons_succ, Act.put, List.setIfInBounds_toArray, List.set_cons_zero, List.set_cons_succ]))
  (refine wpAnyH_take (i := 8) (v := ?_) rfl (by kernel_rfl) (by kernel_rfl) (by kernel_rfl) (fun _ _ _ h => h) (Or.inl ⟨by rfl, ?_⟩) (by assumption) ?_; rotate_left; (focus (intro w hSw; (try dsimp only at hSw); go_simp; (try with_reducible rfl))); (try simp only [List.getElem_toArray, List.getElem_cons_zero, List.getElem_cons_succ, Act.put, List.setIfInBounds_toArray, List.set_cons_zero, List.set_cons_succ]))
  (refine wpAnyH_take (i := 9) (v := ?_) rfl (by kernel_rfl) (by kernel_rfl) (by kernel_rfl) (fun _ _ _ h => h) (Or.inl ⟨by rfl, ?_⟩) (by assumption) ?_; rotate_left; (focus (intro w hSw; (try dsimp only at hSw); go_simp; (try with_reducible rfl))); (try simp only [List.getElem_toArray, List.getElem_cons_zero, List.getElem_cons_succ, Act.put, List.setIfInBounds_toArray, List.set_cons_zero, List.set_cons_succ]))
  (refine wpAnyH_take (i := 10) (v := ?_) rfl (by kernel_rfl) (by kernel_rfl) (by kernel_rfl) (fun _ _ _ h => h) (Or.inl ⟨by rfl, ?_⟩) (by assumption) ?_; rotate_left; (focus (intro w hSw; (try dsimp only at hSw); go_simp; (try with_reducible rfl))); (try simp only [List.getElem_toArray, List.getElem_cons_zero, List.getElem_cons_succ, Act.put, List.setIfInBounds_toArray, List.set_cons_zero, List.set_cons_succ]))
  refine wpAnyH_done (by kernel_rfl) ?_ _
  clear hHeld hS0 S4 S5 S6 S7
  have z0 := (hB37.cell (p := ⟨w1.heap.size, 0, none⟩) hle3).trans (box_cell ch3 0 rfl)
  have z1 := (hB37.cell (p := ⟨w1.heap.size, 1, none⟩) hle3).trans (box_cell ch3 1 rfl)
  have z2 := (hB37.cell (p := ⟨w1.heap.size, 2, none⟩) hle3).trans (box_cell ch3 2 rfl)
  have z3 := (hB37.cell (p := ⟨w1.heap.size, 3, none⟩) hle3).trans (box_cell ch3 3 rfl)
  have hB17 : Below w1.heap.size w1 w7 := hB16.trans (hb7.mono hle6)
  have hlt7 : w1.heap.size < w7.heap.size := Nat.lt_of_lt_of_le hle3 hB37.size
  obtain ⟨WG, hWG⟩ : ∃ WG : World, (w7.alloc (.cells #[.int .i64 0, .int .i64 (-1), .int .i64 (-1)] 3)).alloc (.cells #[.slice (some ⟨w7.heap.size, 0, none⟩) 3 3] 22) = WG := ⟨_, rfl⟩
  have hB7G : Below w7.heap.size w7 WG := by rw [← hWG]; exact below2 (Nat.le_refl _) _ _
  have hszG : WG.heap.size = w7.heap.size + 1 + 1 := by rw [← hWG]; simp
  have hFG : FruitsAt WG.heap.size WG (.slice (some ⟨w7.heap.size + 1, 0, none⟩) 1 1) exG := by
    have e0 : WG.heap[w7.heap.size]? = some (.cells #[.int .i64 0, .int .i64 (-1), .int .i64 (-1)] 3) := by
      rw [← hWG, Below.heap_alloc _ _ _ (by simp)]; exact World.alloc_heap_new _ _
    have e1 : WG.heap[w7.heap.size + 1]? = some (.cells #[.slice (some ⟨w7.heap.size, 0, none⟩) 3 3] 22) := by
      rw [← hWG]; have := World.alloc_heap_new (w7.alloc (.cells #[.int .i64 0, .int .i64 (-1), .int .i64 (-1)] 3)) (.cells #[.slice (some ⟨w7.heap.size, 0, none⟩) 3 3] 22); rwa [World.size_alloc] at this
    exact list_blk (n := 1) (c := 1) e1 (by omega) (by decide) (fun i hi => by
      rcases i with _ | i
      · exact ⟨_, rfl, (list_blk (n := 3) (c := 3) e0 (by omega) (by decide) (fun i hi => ⟨_, by rcases i with _ | _ | _ | i <;> first | rfl | omega, rfl⟩) : IntsAt WG.heap.size WG (.slice (some ⟨w7.heap.size, 0, none⟩) 3 3) 3 (exG.X 0))⟩
      · omega)
  have HFG : Hid _ := Lib.hid hFG
  have HWG : Hid _ := Lib.hid hWG
  clear hFG hWG hszG
  go_wp2_with (first
    | (go_at_call 35; rw [HWG.out]; refine (mAfter_any WG.heap.size _ _ exB exG ((0 : Nat) : Int) ((1 : Nat) : Int) _ (HBK.out.mono (hB17.trans (hB7G.mono hB17.size)) (Nat.le_trans hB17.size hB7G.size) (Nat.le_refl _)) HFG.out).mono ?_; rintro e w8 ⟨rfl, hb8⟩; rw [ex4]; have hB78 : Below w7.heap.size w7 w8 := step hB7G (Nat.le_refl _) hb8; have y0 := (hB78.cell (p := ⟨w1.heap.size, 0, none⟩) hlt7).trans z0; have y1 := (hB78.cell (p := ⟨w1.heap.size, 1, none⟩) hlt7).trans z1; have y2 := (hB78.cell (p := ⟨w1.heap.size, 2, none⟩) hlt7).trans z2; have y3 := (hB78.cell (p := ⟨w1.heap.size, 3, none⟩) hlt7).trans z3; clear hb8)
    | (go_at_call 40; refine (mApart_any w1.heap.size _ exB ((0 : Nat) : Int) ((2 : Nat) : Int) _ (HBK.out.mono (hB17.trans (hB78.mono hB17.size)) (Nat.le_refl _) (Nat.le_trans hB17.size hB78.size))).mono ?_; rintro e w9 ⟨u9, rfl, hu9, hb9⟩; rw [ex5] at hu9; rw [ex5]; obtain ⟨a9, c9, rfl⟩ := hu9.form; have HU9 := Lib.hid hu9; have hB79 : Below w7.heap.size w7 w9 := step hB78 (Nat.le_refl _) hb9; have HB39 : Hid _ := Lib.hid (hB37.trans (hB79.mono hB37.size)); have m0 := (hB79.cell (p := ⟨g7, 0, none⟩) lt7).trans m0_7; have m1 := (hB79.cell (p := ⟨g7, 1, none⟩) lt7).trans m1_7; have y0 := (hB79.cell (p := ⟨w1.heap.size, 0, none⟩) hlt7).trans z0; have y1 := (hB79.cell (p := ⟨w1.heap.size, 1, none⟩) hlt7).trans z1; have y2 := (hB79.cell (p := ⟨w1.heap.size, 2, none⟩) hlt7).trans z2; have y3 := (hB79.cell (p := ⟨w1.heap.size, 3, none⟩) hlt7).trans z3; clear hu9 hb9)
    | (go_at_call 30; refine (same01_any _ _ _ _ _ HU9.out HBS.out).mono ?_; rintro e wT ⟨rfl, hBT⟩; have HB7T : Hid _ := Lib.hid (hB7S.trans (hBT.mono hB7S.size)); clear hBT)
    | (go_at_call 30; refine (same01_any _ _ _ _ _ HU.out HB39.out).mono ?_; rintro e wS ⟨rfl, hBS⟩; have hB7S : Below w7.heap.size w7 wS := step hB79 (Nat.le_refl _) hBS; have m0 := (hB7S.cell (p := ⟨g7, 0, none⟩) lt7).trans m0_7; have m1 := (hB7S.cell (p := ⟨g7, 1, none⟩) lt7).trans m1_7; have HBS : Hid _ := Lib.hid hBS; clear hBS))
  have hF : Below w.heap.size w wT := HB1.out.trans ((hB17.trans (HB7T.out.mono hB17.size)).mono HB1.out.size)
  go_ret
  exact ⟨rfl, hF⟩

end Go.Proofs.Ytopajgnemeodeaa
