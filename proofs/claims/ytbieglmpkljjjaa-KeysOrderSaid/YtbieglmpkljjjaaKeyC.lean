/-
  KeyC: cubes of fruits as keys of a map.
-/
import Derived.Test.YtbieglmpkljjjaaSearch
import Derived.DeepKeys4
namespace Go.Proofs.Ytbieglmpkljjjaa
open Go.RowKit Go.Maps

theorem laidC : laidOutB Try.prog = true := by kernel_rfl
theorem rowCube : 94 < Try.prog.types.size := of_decide_eq_true (by kernel_rfl)
theorem wideCube : (match Try.prog.underlying 94 with | some (.array _ _) | some (.struct _) => true | _ => false) = true := by rw [Try.underlying94]
set_option maxRecDepth 100000 in
theorem lawCubeK : WideMaps.KeyLaw Try.prog 94 := deep_law_laid laidC (m := 2) (by omega) rowCube (by kernel_rfl) wideCube
theorem lawCube : Maps.Keyed Try.prog 94 := Keyed.of_law lawCubeK

/-- five small numbers -/
def SmallC (c : Nat → Int) : Prop := ∀ i, i < 5 → -1 ≤ c i ∧ c i ≤ 2
def decC (f : Nat) : Nat → Int := fun i => ((f / 4 ^ i % 4 : Nat) : Int) - 1
def keyB (c : Nat → Int) : List UInt8 := keyBytes [.int .i64 (c 0), .int .i64 (c 1), .int .i64 (c 2), .int .i64 (c 3), .int .i64 (c 4)]
def cubeKey (c : Nat → Int) : Lit := .string (keyB c)
def isKeyB (o : Option Lit) (b : List UInt8) : Bool := match o with | some (.string s) => s == b | _ => false
theorem isKeyB_eq {o : Option Lit} {b : List UInt8} (h : isKeyB o b = true) : o = some (.string b) := by
  unfold isKeyB at h
  split at h
  · rw [beq_iff_eq] at h; rw [h]
  · cases h
theorem key_all : ∀ f : Fin 1024, isKeyB (keyOf Try.prog 94 (cubeV (decC f.val))) (keyB (decC f.val)) = true := by decide +kernel
def encC (c : Nat → Int) : Nat := (c 0 + 1).toNat + 4 * (c 1 + 1).toNat + 16 * (c 2 + 1).toNat + 64 * (c 3 + 1).toNat + 256 * (c 4 + 1).toNat
theorem enc_lt {c : Nat → Int} (h : SmallC c) : encC c < 1024 := by
  have h0 := h 0 (by omega); have h1 := h 1 (by omega); have h2 := h 2 (by omega); have h3 := h 3 (by omega); have h4 := h 4 (by omega)
  unfold encC; omega
theorem dec_eq {c : Nat → Int} (h : SmallC c) : ∀ i, i < 5 → decC (encC c) i = c i := by
  have h0 := h 0 (by omega); have h1 := h 1 (by omega); have h2 := h 2 (by omega); have h3 := h 3 (by omega); have h4 := h 4 (by omega)
  intro i hi
  have : i = 0 ∨ i = 1 ∨ i = 2 ∨ i = 3 ∨ i = 4 := by omega
  unfold decC encC
  rcases this with rfl | rfl | rfl | rfl | rfl <;> simp only [Nat.reducePow] <;> omega
theorem cubeV_congr {c d : Nat → Int} (h : ∀ i, i < 5 → c i = d i) : cubeV c = cubeV d := by
  unfold cubeV
  rw [h 0 (by omega), h 1 (by omega), h 2 (by omega), h 3 (by omega), h 4 (by omega)]
theorem cubeKey_congr {c d : Nat → Int} (h : ∀ i, i < 5 → c i = d i) : cubeKey c = cubeKey d := by
  unfold cubeKey keyB
  rw [h 0 (by omega), h 1 (by omega), h 2 (by omega), h 3 (by omega), h 4 (by omega)]
theorem cubeKey_of {c : Nat → Int} (h : SmallC c) : keyOf Try.prog 94 (cubeV c) = some (cubeKey c) := by
  have h1 : keyOf Try.prog 94 (cubeV (decC (encC c))) = some (cubeKey (decC (encC c))) := isKeyB_eq (key_all ⟨encC c, enc_lt h⟩)
  rw [cubeV_congr (dec_eq h), cubeKey_congr (dec_eq h)] at h1
  exact h1
theorem cubeKey_lit {c : Nat → Int} (h : SmallC c) : WideAt.IsKeyLit (cubeKey c) := lawCube.key (cubeKey_of h)
theorem cubeV_inj {c d : Nat → Int} (h : cubeV c = cubeV d) : ∀ i, i < 5 → c i = d i := by
  intro i hi
  unfold cubeV at h
  injection h with h
  have h' := congrArg Array.toList h
  simp only [List.cons.injEq, Value.int.injEq, true_and, and_true] at h'
  obtain ⟨a, b, c', d', e⟩ := h'
  have : i = 0 ∨ i = 1 ∨ i = 2 ∨ i = 3 ∨ i = 4 := by omega
  rcases this with rfl | rfl | rfl | rfl | rfl <;> assumption
theorem cubeKey_inj {c d : Nat → Int} (hc : SmallC c) (hd : SmallC d) (h : cubeKey c = cubeKey d) : ∀ i, i < 5 → c i = d i :=
  cubeV_inj (lawCube.inj (cubeKey_of hc) (by rw [h]; exact cubeKey_of hd))
end Go.Proofs.Ytbieglmpkljjjaa
