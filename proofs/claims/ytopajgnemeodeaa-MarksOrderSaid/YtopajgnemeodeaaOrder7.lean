/-
  A turned book is stored into its box, beside turned fruits.
-/
import Derived.Test.YtopajgnemeodeaaOrder5
import Derived.Test.YtopajgnemeodeaaCApart
namespace Go.Proofs.Ytopajgnemeodeaa
open Go.RowKit

theorem put_book {w w9 : World} {gz lo : Nat} {x0 x1 x2 x3 z0 z1 z2 z3 : Value} {D : Bk} {vl : Value} {n : Nat} {L : Nat → Nat} {X : Nat → Nat → Int}
    (hz : w.heap[gz]? = some (Obj.cells #[z0, z1, z2, z3] 25 (0, 0)))
    (hk : BookKept w (.agg #[x0, x1, x2, x3]) D) (hr : RowsIn w lo w.heap.size vl n L X) (hn : n ≤ 1000) (hL : ∀ f, f < n → L f ≤ 1000)
    (h9 : ((((w.setCell ⟨gz, 0, none⟩ x0).setCell ⟨gz, 1, none⟩ x1).setCell ⟨gz, 2, none⟩ x2).setCell ⟨gz, 3, none⟩ x3) = w9) :
    w9.heap[gz]? = some (Obj.cells #[x0, x1, x2, x3] 25 (0, 0)) ∧ BookAt w9.heap.size w9 (.agg #[x0, x1, x2, x3]) D ∧ RowsAt w9.heap.size w9 vl n L X ∧ ∀ N, N ≤ gz → Below N w w9 := by
  obtain ⟨f1, f2, f3⟩ := store_four hz x0 x1 x2 x3
  have hsz : w9.heap.size = w.heap.size := by rw [← h9]; simp [World.setCell]
  rw [h9] at f1 f2 f3
  refine ⟨f1, hk w w9 (Below.refl _ _) hsz f3, ?_, f2⟩
  have hr9 : RowsIn w9 lo w.heap.size vl n L X := hr.keep fun k cs t _ _ ht hg => by
    refine f3 k cs t ?_ hg
    rcases ht with rfl | rfl <;> decide
  exact hr9.rows (by rw [hsz]; exact Nat.le_refl _) (by omega) (fun j hj => by have := hL j hj; omega)

theorem store_two {w : World} {g : Nat} {z0 z1 : Value} {t : TypeId} (h : w.heap[g]? = some (Obj.cells #[z0, z1] t (0, 0))) (v0 v1 : Value) :
    ((w.setCell ⟨g, 0, none⟩ v0).setCell ⟨g, 1, none⟩ v1).heap[g]? = some (Obj.cells #[v0, v1] t (0, 0)) ∧ (∀ N, N ≤ g → Below N w ((w.setCell ⟨g, 0, none⟩ v0).setCell ⟨g, 1, none⟩ v1)) :=
  ⟨by simp [World.setCell, Array.getElem?_modify, h], fun N hN => ((Below.refl N w).setCell (p := ⟨g, 0, none⟩) hN _).setCell (p := ⟨g, 1, none⟩) hN _⟩

theorem ints_n {N n : Nat} {wj wk : World} {v : Value} {l : List Int} (h : OwnI N wj v l) (hn : l.length = n) (hl : n ≤ 1000) (k : Below wj.heap.size wj wk) : IntsAt wk.heap.size wk v n (fun i => l.getD i 0) := by
  subst hn; exact IntsAt.wider (h.at_ (by omega) k) k.size

theorem mApart_n (N : Nat) (v : Value) (B : Bk) (s t : Int) (w : World) (h : BookAt N w v B) {l : List Int} {er : Int} {n : Nat} (he : eApart B s t = (l, er)) (hn : l.length = n) :
    Calls Try.prog 40 #[v, .int .i64 s, .int .i64 t] w fun e w' => ∃ ao co, e = .returned (.tuple #[.slice ao n co, .int .i64 er]) ∧ Hid (OwnI w.heap.size w' (.slice ao n co) l) ∧ Below w.heap.size w w' := by
  refine (mApart_any N v B s t w h).mono ?_
  rintro e w' ⟨u, rfl, hu, hb⟩
  rw [he] at hu
  rw [he]
  obtain ⟨ao, co, rfl⟩ := hu.form
  subst hn
  exact ⟨ao, co, rfl, hu, hb⟩

theorem mValues_n (N : Nat) (v u : Value) (B : Bk) (R : Fr) (f m : Int) (w : World) (h : BookAt N w v B) (hf : FruitsAt N w u R) {l : List Int} {er : Int} {n : Nat} (he : eValues B R f m = (l, er)) (hn : l.length = n) :
    Calls Try.prog 31 #[v, u, .agg #[.int .i64 f, .int .i64 m]] w fun e w' => ∃ ao co, e = .returned (.tuple #[.slice ao n co, .int .i64 er]) ∧ Hid (OwnI w.heap.size w' (.slice ao n co) l) ∧ Below w.heap.size w w' := by
  refine (mValues_any N v u B R f m w h hf).mono ?_
  rintro e w' ⟨u, rfl, hu, hb⟩
  rw [he] at hu
  rw [he]
  obtain ⟨ao, co, rfl⟩ := hu.form
  subst hn
  exact ⟨ao, co, rfl, hu, hb⟩

end Go.Proofs.Ytopajgnemeodeaa
