/-
  Base: how lists of numbers, of rows and of sorts lie in a world.
-/
import Derived.Test.YtmmadlpkolcgkaaProg
import Derived.WalkKit
import Derived.WalkSpells
import Derived.WalkLawsBesides
import Derived.Lib.Hide
import Derived.BigQuiet
import Derived.Deep.QuietTactic
import Derived.IntWalk
namespace Go.Proofs.Ytmmadlpkolcgkaa
open Go.RowKit

/-- v is a list of n elements, whose cells lie below block N; the i-th one is r with E i r. -/
def ListAt (N : Nat) (w : World) (E : Nat → Value → Prop) (v : Value) (n : Nat) : Prop :=
  ∃ ao cap, v = .slice ao n cap ∧ n ≤ 140737488351232 ∧ (0 < n → ∃ b off, ao = some ⟨b, off, none⟩ ∧ b < N ∧ ∀ i, i < n → ∃ r, w.cell? ⟨b, off + i, none⟩ = some r ∧ E i r)

def IntsAt (N : Nat) (w : World) (v : Value) (n : Nat) (x : Nat → Int) : Prop := ListAt N w (fun i r => r = .int .i64 (x i)) v n

def RowsAt (N : Nat) (w : World) (v : Value) (n : Nat) (L : Nat → Nat) (x : Nat → Nat → Int) : Prop := ListAt N w (fun i r => IntsAt N w r (L i) (x i)) v n

def SortsAt (N : Nat) (w : World) (v : Value) (n : Nat) (L : Nat → Nat) (M : Nat → Nat → Nat) (x : Nat → Nat → Nat → Int) : Prop := ListAt N w (fun i r => RowsAt N w r (L i) (M i) (x i)) v n

theorem ListAt.mono {N N' : Nat} {w w' : World} {E E' : Nat → Value → Prop} {v : Value} {n : Nat} (h : ListAt N w E v n) (hB : Below N w w') (hN : N ≤ N') (hE : ∀ i r, i < n → E i r → E' i r) : ListAt N' w' E' v n := by
  obtain ⟨ao, cap, rfl, hn, hc⟩ := h
  refine ⟨ao, cap, rfl, hn, fun h0 => ?_⟩
  obtain ⟨b, off, rfl, hb, hr⟩ := hc h0
  refine ⟨b, off, rfl, by omega, fun i hi => ?_⟩
  obtain ⟨r, h1, h2⟩ := hr i hi
  exact ⟨r, (hB.cell (p := ⟨b, off + i, none⟩) hb).trans h1, hE i r hi h2⟩

theorem IntsAt.mono {N N' : Nat} {w w' : World} {v : Value} {n : Nat} {x : Nat → Int} (h : IntsAt N w v n x) (hB : Below N w w') (hN : N ≤ N') : IntsAt N' w' v n x :=
  ListAt.mono h hB hN (fun _ _ _ h => h)
theorem RowsAt.mono {N N' : Nat} {w w' : World} {v : Value} {n : Nat} {L : Nat → Nat} {x : Nat → Nat → Int} (h : RowsAt N w v n L x) (hB : Below N w w') (hN : N ≤ N') : RowsAt N' w' v n L x :=
  ListAt.mono h hB hN (fun _ _ _ h => IntsAt.mono h hB hN)
theorem SortsAt.mono {N N' : Nat} {w w' : World} {v : Value} {n : Nat} {L : Nat → Nat} {M : Nat → Nat → Nat} {x : Nat → Nat → Nat → Int} (h : SortsAt N w v n L M x) (hB : Below N w w') (hN : N ≤ N') : SortsAt N' w' v n L M x :=
  ListAt.mono h hB hN (fun _ _ _ h => RowsAt.mono h hB hN)

/-- is there an i below n with p i? -/
def anyB (n : Nat) (p : Nat → Bool) : Bool := (List.range n).any p
def allB (n : Nat) (p : Nat → Bool) : Bool := (List.range n).all p

theorem anyB_true {n : Nat} {p : Nat → Bool} : anyB n p = true ↔ ∃ i, i < n ∧ p i = true := by simp [anyB]
theorem anyB_false {n : Nat} {p : Nat → Bool} : anyB n p = false ↔ ∀ i, i < n → p i = false := by simp [anyB]
theorem allB_true {n : Nat} {p : Nat → Bool} : allB n p = true ↔ ∀ i, i < n → p i = true := by simp [allB]
theorem allB_false {n : Nat} {p : Nat → Bool} : allB n p = false ↔ ∃ i, i < n ∧ p i = false := by simp [allB]

theorem ret_bool {a b : Bool} (h : a = b) : Ending.returned (.bool a) = .returned (.bool b) := by rw [h]
theorem ret_int {k : IntKind} {a b : Int} (h : a = b) : Ending.returned (.int k a) = .returned (.int k b) := by rw [h]

end Go.Proofs.Ytmmadlpkolcgkaa
