/-
  TurnB: the book that KeysOrder makes.
-/
import Derived.Test.YtbieglmpkljjjaaTurned
import Derived.Test.YtbieglmpkljjjaaTurn2
namespace Go.Proofs.Ytbieglmpkljjjaa
open Go.RowKit

def nodeM (B : KB) (a i : Nat) : Int := if B.D.M i = -1 then -1 else (rotS B.nv a (B.D.M i).toNat : Nat)
def nodeS (B : KB) (c i : Nat) : Int := if B.D.M i = -1 ∧ B.D.S i ≠ -1 then (rotS B.ns c (B.D.S i).toNat : Nat) else B.D.S i
def turnB (B : KB) (a c : Nat) : KB :=
  { nv := B.nv, V := fun m => B.V (rotT B.nv a m), ns := B.ns, L := fun i => B.L (rotT B.ns c i), X := fun i m => B.X (rotT B.ns c i) (rotT B.nv a m)
    D := { n := B.D.n, M := nodeM B a, S := nodeS B c, q := B.D.q, T := B.D.T } }
theorem turn_is {B : KB} (hG : GoodB B) (a c : Nat) : Turn B (turnB B a c) (rotS B.nv a) (rotT B.nv a) (rotS B.ns c) (rotT B.ns c) where
  nv := rfl
  ns := rfl
  dn := rfl
  hs := fun m hm => ⟨rotS_lt hm, rot_st hm⟩
  ht := fun m hm => ⟨rotT_lt hm, rot_ts hm⟩
  hp := fun i hi => ⟨rotS_lt hi, rot_st hi⟩
  hr := fun i hi => ⟨rotT_lt hi, rot_ts hi⟩
  V := fun m hm => by show B.V (rotT B.nv a (rotS B.nv a m)) = _; rw [rot_st hm]
  L := fun i hi => by show B.L (rotT B.ns c (rotS B.ns c i)) = _; rw [rot_st hi]
  X := fun i hi m hm => by show B.X (rotT B.ns c (rotS B.ns c i)) (rotT B.nv a (rotS B.nv a m)) = _; rw [rot_st hi, rot_st hm]
  q := fun _ _ => rfl
  T := fun _ _ _ => rfl
  M0 := fun i _ h => by show nodeM B a i = -1; unfold nodeM; rw [if_pos h]
  M1 := fun i _ m h => by
    show nodeM B a i = _
    unfold nodeM
    rw [if_neg (by omega), h]; rfl
  S0 := fun i _ h => by
    show nodeS B c i = -1
    unfold nodeS
    rw [if_neg (by rintro ⟨_, h2⟩; exact h2 h), h]
  S1 := fun i hi k h => by
    show nodeS B c i = _
    unfold nodeS
    have hM : B.D.M i = -1 := Classical.byContradiction fun hm => by
      have := (hG.D.ask i hi hm).2.2.1
      omega
    rw [if_pos ⟨hM, by omega⟩, h]; rfl

/-- all that KeysOrder asks of the two books -/
structure OrderK (B C : KB) (s : Nat → Nat) : Prop where
  ok : okKB C = true
  short : eShort C = eShort B
  idle : eIdle C = eIdle B
  best : eLeast C false = eLeast B false
  mean : eLeast C true = eLeast B true
  deep : eDeep C = eDeep B
  need : (eNeed C).1.length = (eNeed B).1.length
  each : ∀ z, z ∈ (eNeed B).1 → ∃ k : Nat, z = k ∧ k < B.nv ∧ (((s k : Nat) : Int) ∈ (eNeed C).1)
theorem orderK {B : KB} (hG : GoodB B) (a c : Nat) : OrderK B (turnB B a c) (rotS B.nv a) := by
  have H := turn_is hG a c
  have hGC := turn_good H hG
  have hk := ok_of_good hG
  have hkC := ok_of_good hGC
  have eB : (eNeed B).1 = sel (fun m => needI B m B.ns) B.nv := by unfold eNeed; rw [hk]; exact eNeed_sel hG
  have eC : (eNeed (turnB B a c)).1 = sel (fun m => needI (turnB B a c) m (turnB B a c).ns) (turnB B a c).nv := by unfold eNeed; rw [hkC]; exact eNeed_sel hGC
  refine ⟨hkC, turn_eShort H hG, turn_eIdle H hG, turn_eLeast H hG false, turn_eLeast H hG true, turn_eDeep H hG, ?_, fun z hz => ?_⟩
  · rw [eB, eC]
    exact Nat.le_antisymm (turn_needs (turn_back H hG) hGC) (turn_needs H hG)
  · rw [eB] at hz
    rw [eC]
    obtain ⟨k, h1, h2, rfl⟩ := (sel_mem _ _ _).1 hz
    exact ⟨k, rfl, h1, (sel_mem _ _ _).2 ⟨rotS B.nv a k, rotS_lt h1, turn_need H h2, rfl⟩⟩

end Go.Proofs.Ytbieglmpkljjjaa
