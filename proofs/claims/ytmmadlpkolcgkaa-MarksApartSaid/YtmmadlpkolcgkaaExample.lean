import Derived.Test.YtmmadlpkolcgkaaMarks1
namespace Go.Proofs.Ytmmadlpkolcgkaa
open Go.RowKit

def exB : Bk :=
  ⟨3, fun i => match i with | 0 => 2 | 1 => 3 | _ => 3, 3, fun i => match i with | 1 => 1 | _ => 0, 3, fun _ => 3,
    fun s i => match s, i with | 0, 1 => 2 | 1, 0 => 2 | 1, 2 => 2 | 2, 2 => 2 | _, _ => 1,
    fun s i k => match s, i, k with | 0, 1, 1 => 1 | 1, 0, 1 => 1 | 1, 1, _ => 1 | 1, 2, 0 => 1 | 1, 2, _ => 2 | 2, 0, _ => 1 | 2, 1, _ => 2 | 2, 2, 1 => 1 | _, _, _ => 0, 1⟩
def exR : Fr := ⟨2, fun _ => 3, fun f i => match f, i with | 0, 2 => -1 | 1, 1 => 1 | _, _ => 0⟩

def allocs (w : World) : List Obj → World
  | [] => w
  | o :: os => allocs (w.alloc o) os
theorem allocs_size (os : List Obj) : ∀ w : World, (allocs w os).heap.size = w.heap.size + os.length := by
  induction os with
  | nil => intro w; rfl
  | cons o os ih => intro w; rw [allocs, ih]; simp; omega
theorem allocs_below (os : List Obj) : ∀ w : World, Below w.heap.size w (allocs w os) := by
  induction os with
  | nil => intro w; exact Below.refl _ _
  | cons o os ih => intro w; exact (below_alloc (Nat.le_refl _) o).trans ((ih (w.alloc o)).mono (by simp))
theorem allocs_at (os : List Obj) : ∀ (w : World) (i : Nat) (o : Obj), os[i]? = some o → (allocs w os).heap[w.heap.size + i]? = some o := by
  induction os with
  | nil => intro w i o h; simp at h
  | cons o' os ih =>
    intro w i o h
    cases i with
    | zero =>
      simp at h; subst h
      rw [allocs, Nat.add_zero, (allocs_below os (w.alloc o')).block _ (by simp)]
      exact World.alloc_heap_new _ _
    | succ i =>
      have := ih (w.alloc o') i o (by simpa using h)
      rw [World.size_alloc] at this
      rw [allocs]
      rwa [show w.heap.size + (i + 1) = w.heap.size + 1 + i by omega]

def exObjs (n : Nat) : List Obj := [
  .cells #[.slice (some ⟨(n + 1), 0, none⟩) 3 3, .slice (some ⟨(n + 1 + 1), 0, none⟩) 3 3, .slice (some ⟨(n + 1 + 1 + 1 + 1 + 1 + 1 + 1 + 1 + 1 + 1 + 1 + 1 + 1 + 1 + 1), 0, none⟩) 3 3, .int .i64 1] 25,
  .cells #[.int .i64 2, .int .i64 3, .int .i64 3] 3,
  .cells #[.int .i64 0, .int .i64 1, .int .i64 0] 3,
  .cells #[.int .i64 0] 3,
  .cells #[.int .i64 0, .int .i64 1] 3,
  .cells #[.int .i64 0] 3,
  .cells #[.slice (some ⟨(n + 1 + 1 + 1), 0, none⟩) 1 1, .slice (some ⟨(n + 1 + 1 + 1 + 1), 0, none⟩) 2 2, .slice (some ⟨(n + 1 + 1 + 1 + 1 + 1), 0, none⟩) 1 1] 22,
  .cells #[.int .i64 0, .int .i64 1] 3,
  .cells #[.int .i64 1] 3,
  .cells #[.int .i64 1, .int .i64 2] 3,
  .cells #[.slice (some ⟨(n + 1 + 1 + 1 + 1 + 1 + 1 + 1), 0, none⟩) 2 2, .slice (some ⟨(n + 1 + 1 + 1 + 1 + 1 + 1 + 1 + 1), 0, none⟩) 1 1, .slice (some ⟨(n + 1 + 1 + 1 + 1 + 1 + 1 + 1 + 1 + 1), 0, none⟩) 2 2] 22,
  .cells #[.int .i64 1] 3,
  .cells #[.int .i64 2] 3,
  .cells #[.int .i64 0, .int .i64 1] 3,
  .cells #[.slice (some ⟨(n + 1 + 1 + 1 + 1 + 1 + 1 + 1 + 1 + 1 + 1 + 1), 0, none⟩) 1 1, .slice (some ⟨(n + 1 + 1 + 1 + 1 + 1 + 1 + 1 + 1 + 1 + 1 + 1 + 1), 0, none⟩) 1 1, .slice (some ⟨(n + 1 + 1 + 1 + 1 + 1 + 1 + 1 + 1 + 1 + 1 + 1 + 1 + 1), 0, none⟩) 2 2] 22,
  .cells #[.slice (some ⟨(n + 1 + 1 + 1 + 1 + 1 + 1), 0, none⟩) 3 3, .slice (some ⟨(n + 1 + 1 + 1 + 1 + 1 + 1 + 1 + 1 + 1 + 1), 0, none⟩) 3 3, .slice (some ⟨(n + 1 + 1 + 1 + 1 + 1 + 1 + 1 + 1 + 1 + 1 + 1 + 1 + 1 + 1), 0, none⟩) 3 3] 73,
  .cells #[.int .i64 0, .int .i64 0, .int .i64 (-1)] 3,
  .cells #[.int .i64 0, .int .i64 1, .int .i64 0] 3,
  .cells #[.slice (some ⟨(n + 1 + 1 + 1 + 1 + 1 + 1 + 1 + 1 + 1 + 1 + 1 + 1 + 1 + 1 + 1 + 1), 0, none⟩) 3 3, .slice (some ⟨(n + 1 + 1 + 1 + 1 + 1 + 1 + 1 + 1 + 1 + 1 + 1 + 1 + 1 + 1 + 1 + 1 + 1), 0, none⟩) 3 3] 22]

theorem list_blk {N : Nat} {W : World} {b n c : Nat} {cs : Array Value} {t : TypeId} {E : Nat → Value → Prop} (h : W.heap[b]? = some (.cells cs t)) (hb : b < N) (hn : n ≤ 140737488351232) (hc : ∀ i, i < n → ∃ r, cs[i]? = some r ∧ E i r) : ListAt N W E (.slice (some ⟨b, 0, none⟩) n c) n :=
  ⟨_, c, rfl, hn, fun _ => ⟨b, 0, rfl, hb, fun i hi => by
    obtain ⟨r, h1, h2⟩ := hc i hi
    exact ⟨r, by rw [Nat.zero_add]; exact cell_blk h i h1, h2⟩⟩⟩

/-- the example: a book, fruits -/
def GivesEx (w : World) (e : Ending) (w' : World) : Prop := ∃ v a g r0 r1, e = .returned (.tuple #[v, .slice (some ⟨g, 0, none⟩) 2 2]) ∧ v = .agg a ∧ BookAt w'.heap.size w' v exB ∧ FruitsAt w'.heap.size w' (.slice (some ⟨g, 0, none⟩) 2 2) exR ∧
  w'.ownsRow w.heap.size 22 1 (.slice (some ⟨g, 0, none⟩) 2 2) 2 [r0, r1] ∧ IntsAt w'.heap.size w' r0 3 (exR.X 0) ∧ IntsAt w'.heap.size w' r1 3 (exR.X 1) ∧ Below w.heap.size w w'

set_option maxHeartbeats 4000000 in
set_option maxRecDepth 100000 in
theorem example_any (w : World) : Calls Try.prog 61 #[] w (GivesEx w) := by
  go_enter Try.func61, Try.ntmps61
  go_wp2
  change bodyPost _ _ _ _ _ (allocs w (exObjs w.heap.size))
  have hc := cell_blk (allocs_at (exObjs w.heap.size) w 0 _ rfl)
  have h0 := hc 0 rfl
  have h1 := hc 1 rfl
  have h2 := hc 2 rfl
  have h3 := hc 3 rfl
  rw [Nat.add_zero] at h0 h1 h2 h3
  refine bodyPost_ret (v := .tuple #[.agg #[.slice (some ⟨w.heap.size + 1, 0, none⟩) 3 3, .slice (some ⟨w.heap.size + 1 + 1, 0, none⟩) 3 3, .slice (some ⟨w.heap.size + 1 + 1 + 1 + 1 + 1 + 1 + 1 + 1 + 1 + 1 + 1 + 1 + 1 + 1 + 1, 0, none⟩) 3 3, .int .i64 1], .slice (some ⟨w.heap.size + 1 + 1 + 1 + 1 + 1 + 1 + 1 + 1 + 1 + 1 + 1 + 1 + 1 + 1 + 1 + 1 + 1 + 1, 0, none⟩) 2 2]) (by simp [results, Try.results61, go_sem, h0, h1, h2, h3]) rfl ?_
  have k0 := allocs_at (exObjs w.heap.size) w 0 _ rfl
  have k1 := allocs_at (exObjs w.heap.size) w 1 _ rfl
  have k2 := allocs_at (exObjs w.heap.size) w 2 _ rfl
  have k3 := allocs_at (exObjs w.heap.size) w 3 _ rfl
  have k4 := allocs_at (exObjs w.heap.size) w 4 _ rfl
  have k5 := allocs_at (exObjs w.heap.size) w 5 _ rfl
  have k6 := allocs_at (exObjs w.heap.size) w 6 _ rfl
  have k7 := allocs_at (exObjs w.heap.size) w 7 _ rfl
  have k8 := allocs_at (exObjs w.heap.size) w 8 _ rfl
  have k9 := allocs_at (exObjs w.heap.size) w 9 _ rfl
  have k10 := allocs_at (exObjs w.heap.size) w 10 _ rfl
  have k11 := allocs_at (exObjs w.heap.size) w 11 _ rfl
  have k12 := allocs_at (exObjs w.heap.size) w 12 _ rfl
  have k13 := allocs_at (exObjs w.heap.size) w 13 _ rfl
  have k14 := allocs_at (exObjs w.heap.size) w 14 _ rfl
  have k15 := allocs_at (exObjs w.heap.size) w 15 _ rfl
  have k16 := allocs_at (exObjs w.heap.size) w 16 _ rfl
  have k17 := allocs_at (exObjs w.heap.size) w 17 _ rfl
  have k18 := allocs_at (exObjs w.heap.size) w 18 _ rfl
  have hsz := allocs_size (exObjs w.heap.size) w
  rw [show (exObjs w.heap.size).length = 19 from rfl] at hsz
  have hbel := allocs_below (exObjs w.heap.size) w
  generalize allocs w (exObjs w.heap.size) = W at *
  clear hc h0 h1 h2 h3
  have i3 := (list_blk (n := 1) (c := 1) k3 (by omega) (by omega) (fun i hi => ⟨_, by rcases i with _ | _ | _ | i <;> first | rfl | omega, rfl⟩) : IntsAt W.heap.size W (.slice (some ⟨w.heap.size + 3, 0, none⟩) 1 1) 1 (exB.can 0 0))
  have i4 := (list_blk (n := 2) (c := 2) k4 (by omega) (by omega) (fun i hi => ⟨_, by rcases i with _ | _ | _ | i <;> first | rfl | omega, rfl⟩) : IntsAt W.heap.size W (.slice (some ⟨w.heap.size + 4, 0, none⟩) 2 2) 2 (exB.can 0 1))
  have i5 := (list_blk (n := 1) (c := 1) k5 (by omega) (by omega) (fun i hi => ⟨_, by rcases i with _ | _ | _ | i <;> first | rfl | omega, rfl⟩) : IntsAt W.heap.size W (.slice (some ⟨w.heap.size + 5, 0, none⟩) 1 1) 1 (exB.can 0 2))
  have s6 : RowsAt W.heap.size W (.slice (some ⟨w.heap.size + 6, 0, none⟩) 3 3) (exB.nc 0) (exB.ncc 0) (exB.can 0) := list_blk (n := 3) (c := 3) k6 (by omega) (by omega) (fun i hi => by
      rcases i with _ | _ | _ | i
      · exact ⟨_, rfl, i3⟩
      · exact ⟨_, rfl, i4⟩
      · exact ⟨_, rfl, i5⟩
      · omega)
  have i7 := (list_blk (n := 2) (c := 2) k7 (by omega) (by omega) (fun i hi => ⟨_, by rcases i with _ | _ | _ | i <;> first | rfl | omega, rfl⟩) : IntsAt W.heap.size W (.slice (some ⟨w.heap.size + 7, 0, none⟩) 2 2) 2 (exB.can 1 0))
  have i8 := (list_blk (n := 1) (c := 1) k8 (by omega) (by omega) (fun i hi => ⟨_, by rcases i with _ | _ | _ | i <;> first | rfl | omega, rfl⟩) : IntsAt W.heap.size W (.slice (some ⟨w.heap.size + 8, 0, none⟩) 1 1) 1 (exB.can 1 1))
  have i9 := (list_blk (n := 2) (c := 2) k9 (by omega) (by omega) (fun i hi => ⟨_, by rcases i with _ | _ | _ | i <;> first | rfl | omega, rfl⟩) : IntsAt W.heap.size W (.slice (some ⟨w.heap.size + 9, 0, none⟩) 2 2) 2 (exB.can 1 2))
  have s10 : RowsAt W.heap.size W (.slice (some ⟨w.heap.size + 10, 0, none⟩) 3 3) (exB.nc 1) (exB.ncc 1) (exB.can 1) := list_blk (n := 3) (c := 3) k10 (by omega) (by omega) (fun i hi => by
      rcases i with _ | _ | _ | i
      · exact ⟨_, rfl, i7⟩
      · exact ⟨_, rfl, i8⟩
      · exact ⟨_, rfl, i9⟩
      · omega)
  have i11 := (list_blk (n := 1) (c := 1) k11 (by omega) (by omega) (fun i hi => ⟨_, by rcases i with _ | _ | _ | i <;> first | rfl | omega, rfl⟩) : IntsAt W.heap.size W (.slice (some ⟨w.heap.size + 11, 0, none⟩) 1 1) 1 (exB.can 2 0))
  have i12 := (list_blk (n := 1) (c := 1) k12 (by omega) (by omega) (fun i hi => ⟨_, by rcases i with _ | _ | _ | i <;> first | rfl | omega, rfl⟩) : IntsAt W.heap.size W (.slice (some ⟨w.heap.size + 12, 0, none⟩) 1 1) 1 (exB.can 2 1))
  have i13 := (list_blk (n := 2) (c := 2) k13 (by omega) (by omega) (fun i hi => ⟨_, by rcases i with _ | _ | _ | i <;> first | rfl | omega, rfl⟩) : IntsAt W.heap.size W (.slice (some ⟨w.heap.size + 13, 0, none⟩) 2 2) 2 (exB.can 2 2))
  have s14 : RowsAt W.heap.size W (.slice (some ⟨w.heap.size + 14, 0, none⟩) 3 3) (exB.nc 2) (exB.ncc 2) (exB.can 2) := list_blk (n := 3) (c := 3) k14 (by omega) (by omega) (fun i hi => by
      rcases i with _ | _ | _ | i
      · exact ⟨_, rfl, i11⟩
      · exact ⟨_, rfl, i12⟩
      · exact ⟨_, rfl, i13⟩
      · omega)
  have s15 : SortsAt W.heap.size W (.slice (some ⟨w.heap.size + 15, 0, none⟩) 3 3) exB.ns exB.nc exB.ncc exB.can := list_blk (n := 3) (c := 3) k15 (by omega) (by omega) (fun i hi => by
      rcases i with _ | _ | _ | i
      · exact ⟨_, rfl, s6⟩
      · exact ⟨_, rfl, s10⟩
      · exact ⟨_, rfl, s14⟩
      · omega)
  have i1 := (list_blk (n := 3) (c := 3) k1 (by omega) (by omega) (fun i hi => ⟨_, by rcases i with _ | _ | _ | i <;> first | rfl | omega, rfl⟩) : IntsAt W.heap.size W (.slice (some ⟨w.heap.size + 1, 0, none⟩) 3 3) 3 (exB.V))
  have i2 := (list_blk (n := 3) (c := 3) k2 (by omega) (by omega) (fun i hi => ⟨_, by rcases i with _ | _ | _ | i <;> first | rfl | omega, rfl⟩) : IntsAt W.heap.size W (.slice (some ⟨w.heap.size + 2, 0, none⟩) 3 3) 3 (exB.F))
  have i16 := (list_blk (n := 3) (c := 3) k16 (by omega) (by omega) (fun i hi => ⟨_, by rcases i with _ | _ | _ | i <;> first | rfl | omega, rfl⟩) : IntsAt W.heap.size W (.slice (some ⟨w.heap.size + 16, 0, none⟩) 3 3) 3 (exR.X 0))
  have i17 := (list_blk (n := 3) (c := 3) k17 (by omega) (by omega) (fun i hi => ⟨_, by rcases i with _ | _ | _ | i <;> first | rfl | omega, rfl⟩) : IntsAt W.heap.size W (.slice (some ⟨w.heap.size + 17, 0, none⟩) 3 3) 3 (exR.X 1))
  have f18 : FruitsAt W.heap.size W (.slice (some ⟨w.heap.size + 18, 0, none⟩) 2 2) exR := list_blk (n := 2) (c := 2) k18 (by omega) (by omega) (fun i hi => by
      rcases i with _ | _ | i
      · exact ⟨_, rfl, i16⟩
      · exact ⟨_, rfl, i17⟩
      · omega)
  exact ⟨_, _, _, _, _, rfl, rfl, ⟨Nat.le_refl _, _, _, _, _, _, _, rfl, i1, i2, s15⟩, f18, ⟨rfl, .inr ⟨_, 2, _, rfl, by omega, k18, Nat.le_refl _, by decide, rfl, rfl⟩⟩, i16, i17, hbel⟩

end Go.Proofs.Ytmmadlpkolcgkaa
