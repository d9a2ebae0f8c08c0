/-
  No cell of these rows narrows 'for every input' (looked for: loops, veiled, ifaces, maps, wideKeys, modest, calm, conditions, laid).
  DERIVED. THE GIVEN ROWS OF THIS SEAT. 9 by the template 'for every input the law returns true; each argument reads behind the call as it read before'; 0 by the template 'total and deterministic' (their statements: YtnnngbnimmcjiaaTotals.lean).
  GIVEN WITH THE SEED: the statements are not yours to turn. If you find one false, say at which input.
  Laid BY PROGRAM, IN A SANDBOX (cutbox-rows.mjs): the forced cells as the released guide's own fill.sh prints them over the translation f115a66a74a2f90d… (all of the seat's roots in one cut). By AI agents, Wed Nov 11 2026. No macro, syntax, notation, axiom, sorry.
-/
import Derived.Test.YtnnngbnimmcjiaaChecked
import GoSem.Claim
import GoSem.ClaimJoined
import GoSem.ClaimMapViews
import Derived.JoinedTies
import Derived.KernelRfl
namespace Go.Proofs.Ytnnngbnimmcjiaa
/- THE CELL 'sum', in the pinned program and in every row, IS THE sha256 OF THE DUMP (.gsa) THAT YtnnngbnimmcjiaaProg.lean LOADS. Nothing in Lean hashes anything: it is a label: what it is worth is what the hold of that sum in a sandbox is worth. -/
noncomputable def Try.pinned : Pinned := { name := "ytnnngbnimmcjiaa", sum := "f115a66a74a2f90d4d87ae4d1d41dbd80b6796b69775530a9e721cff527aa68f", checked := Try.checked }
namespace Rows
def none {H : Type} : Left H := { results := [], args := [] }

/-- 'pippinlaw06.ScionsEach': WHATEVER THE INPUT: true; the input reads as it did. -/
def scionsEachSpec : ChangeSpec := { name := "scionsEach", fn := fun _ => fun
  | [d1, d2, d3] => { results := [.lit (.bool true)], args := [d1, d2, d3] }
  | _ => none }
def scionsEachRow : OpenClaim := { program := "ytnnngbnimmcjiaa", sum := "f115a66a74a2f90d4d87ae4d1d41dbd80b6796b69775530a9e721cff527aa68f", func := "pippin/pippinlaw06.ScionsEach", spec := "scionsEach", unfollowed := true, recurses := true, apart := false }
def ScionsEachSaid : Prop := scionsEachRow.holds Try.pinned (OpenSpec.ofChange scionsEachSpec)

/-- ITS FALSE NEIGHBOUR: 'it returns false'. Refute it at one input. -/
def scionsEachWrong : ChangeSpec := { name := "scionsEach", fn := fun _ => fun
  | [d1, d2, d3] => { results := [.lit (.bool false)], args := [d1, d2, d3] }
  | _ => none }
def ScionsEachWrongFalsely : Prop := scionsEachRow.holds Try.pinned (OpenSpec.ofChange scionsEachWrong)

/-- 'pippinlaw06.ScionsRare': WHATEVER THE INPUT: true; the input reads as it did. -/
def scionsRareSpec : ChangeSpec := { name := "scionsRare", fn := fun _ => fun
  | [d] => { results := [.lit (.bool true)], args := [d] }
  | _ => none }
def scionsRareRow : OpenClaim := { program := "ytnnngbnimmcjiaa", sum := "f115a66a74a2f90d4d87ae4d1d41dbd80b6796b69775530a9e721cff527aa68f", func := "pippin/pippinlaw06.ScionsRare", spec := "scionsRare", unfollowed := true, recurses := true, apart := false }
def ScionsRareSaid : Prop := scionsRareRow.holds Try.pinned (OpenSpec.ofChange scionsRareSpec)

/-- ITS FALSE NEIGHBOUR: 'it returns false'. Refute it at one input. -/
def scionsRareWrong : ChangeSpec := { name := "scionsRare", fn := fun _ => fun
  | [d] => { results := [.lit (.bool false)], args := [d] }
  | _ => none }
def ScionsRareWrongFalsely : Prop := scionsRareRow.holds Try.pinned (OpenSpec.ofChange scionsRareWrong)

/-- 'pippinlaw06.ScionsMore': WHATEVER THE INPUT: true; the input reads as it did. -/
def scionsMoreSpec : ChangeSpec := { name := "scionsMore", fn := fun _ => fun
  | [d1, d2] => { results := [.lit (.bool true)], args := [d1, d2] }
  | _ => none }
def scionsMoreRow : OpenClaim := { program := "ytnnngbnimmcjiaa", sum := "f115a66a74a2f90d4d87ae4d1d41dbd80b6796b69775530a9e721cff527aa68f", func := "pippin/pippinlaw06.ScionsMore", spec := "scionsMore", unfollowed := true, recurses := true, apart := false }
def ScionsMoreSaid : Prop := scionsMoreRow.holds Try.pinned (OpenSpec.ofChange scionsMoreSpec)

/-- ITS FALSE NEIGHBOUR: 'it returns false'. Refute it at one input. -/
def scionsMoreWrong : ChangeSpec := { name := "scionsMore", fn := fun _ => fun
  | [d1, d2] => { results := [.lit (.bool false)], args := [d1, d2] }
  | _ => none }
def ScionsMoreWrongFalsely : Prop := scionsMoreRow.holds Try.pinned (OpenSpec.ofChange scionsMoreWrong)

/-- 'pippinlaw06.ScionsFrost': WHATEVER THE INPUT: true; the input reads as it did. -/
def scionsFrostSpec : ChangeSpec := { name := "scionsFrost", fn := fun _ => fun
  | [d1, d2, d3] => { results := [.lit (.bool true)], args := [d1, d2, d3] }
  | _ => none }
def scionsFrostRow : OpenClaim := { program := "ytnnngbnimmcjiaa", sum := "f115a66a74a2f90d4d87ae4d1d41dbd80b6796b69775530a9e721cff527aa68f", func := "pippin/pippinlaw06.ScionsFrost", spec := "scionsFrost", unfollowed := true, recurses := true, apart := false }
def ScionsFrostSaid : Prop := scionsFrostRow.holds Try.pinned (OpenSpec.ofChange scionsFrostSpec)

/-- ITS FALSE NEIGHBOUR: 'it returns false'. Refute it at one input. -/
def scionsFrostWrong : ChangeSpec := { name := "scionsFrost", fn := fun _ => fun
  | [d1, d2, d3] => { results := [.lit (.bool false)], args := [d1, d2, d3] }
  | _ => none }
def ScionsFrostWrongFalsely : Prop := scionsFrostRow.holds Try.pinned (OpenSpec.ofChange scionsFrostWrong)

/-- 'pippinlaw06.ScionsOrder': WHATEVER THE INPUT: true; the input reads as it did. -/
def scionsOrderSpec : ChangeSpec := { name := "scionsOrder", fn := fun _ => fun
  | [d1, d2] => { results := [.lit (.bool true)], args := [d1, d2] }
  | _ => none }
def scionsOrderRow : OpenClaim := { program := "ytnnngbnimmcjiaa", sum := "f115a66a74a2f90d4d87ae4d1d41dbd80b6796b69775530a9e721cff527aa68f", func := "pippin/pippinlaw06.ScionsOrder", spec := "scionsOrder", unfollowed := true, recurses := true, apart := false }
def ScionsOrderSaid : Prop := scionsOrderRow.holds Try.pinned (OpenSpec.ofChange scionsOrderSpec)

/-- ITS FALSE NEIGHBOUR: 'it returns false'. Refute it at one input. -/
def scionsOrderWrong : ChangeSpec := { name := "scionsOrder", fn := fun _ => fun
  | [d1, d2] => { results := [.lit (.bool false)], args := [d1, d2] }
  | _ => none }
def ScionsOrderWrongFalsely : Prop := scionsOrderRow.holds Try.pinned (OpenSpec.ofChange scionsOrderWrong)

/-- 'pippinlaw06.ScionsFits': WHATEVER THE INPUT: true; the input reads as it did. -/
def scionsFitsSpec : ChangeSpec := { name := "scionsFits", fn := fun _ => fun
  | [d1, d2, d3] => { results := [.lit (.bool true)], args := [d1, d2, d3] }
  | _ => none }
def scionsFitsRow : OpenClaim := { program := "ytnnngbnimmcjiaa", sum := "f115a66a74a2f90d4d87ae4d1d41dbd80b6796b69775530a9e721cff527aa68f", func := "pippin/pippinlaw06.ScionsFits", spec := "scionsFits", unfollowed := true, recurses := true, apart := false }
def ScionsFitsSaid : Prop := scionsFitsRow.holds Try.pinned (OpenSpec.ofChange scionsFitsSpec)

/-- ITS FALSE NEIGHBOUR: 'it returns false'. Refute it at one input. -/
def scionsFitsWrong : ChangeSpec := { name := "scionsFits", fn := fun _ => fun
  | [d1, d2, d3] => { results := [.lit (.bool false)], args := [d1, d2, d3] }
  | _ => none }
def ScionsFitsWrongFalsely : Prop := scionsFitsRow.holds Try.pinned (OpenSpec.ofChange scionsFitsWrong)

/-- 'pippinlaw06.ScionsMost': WHATEVER THE INPUT: true; the input reads as it did. -/
def scionsMostSpec : ChangeSpec := { name := "scionsMost", fn := fun _ => fun
  | [d1, d2, d3] => { results := [.lit (.bool true)], args := [d1, d2, d3] }
  | _ => none }
def scionsMostRow : OpenClaim := { program := "ytnnngbnimmcjiaa", sum := "f115a66a74a2f90d4d87ae4d1d41dbd80b6796b69775530a9e721cff527aa68f", func := "pippin/pippinlaw06.ScionsMost", spec := "scionsMost", unfollowed := true, recurses := true, apart := false }
def ScionsMostSaid : Prop := scionsMostRow.holds Try.pinned (OpenSpec.ofChange scionsMostSpec)

/-- ITS FALSE NEIGHBOUR: 'it returns false'. Refute it at one input. -/
def scionsMostWrong : ChangeSpec := { name := "scionsMost", fn := fun _ => fun
  | [d1, d2, d3] => { results := [.lit (.bool false)], args := [d1, d2, d3] }
  | _ => none }
def ScionsMostWrongFalsely : Prop := scionsMostRow.holds Try.pinned (OpenSpec.ofChange scionsMostWrong)

/-- 'pippinlaw06.ScionsBest': WHATEVER THE INPUT: true; the input reads as it did. -/
def scionsBestSpec : ChangeSpec := { name := "scionsBest", fn := fun _ => fun
  | [d] => { results := [.lit (.bool true)], args := [d] }
  | _ => none }
def scionsBestRow : OpenClaim := { program := "ytnnngbnimmcjiaa", sum := "f115a66a74a2f90d4d87ae4d1d41dbd80b6796b69775530a9e721cff527aa68f", func := "pippin/pippinlaw06.ScionsBest", spec := "scionsBest", unfollowed := true, recurses := true, apart := false }
def ScionsBestSaid : Prop := scionsBestRow.holds Try.pinned (OpenSpec.ofChange scionsBestSpec)

/-- ITS FALSE NEIGHBOUR: 'it returns false'. Refute it at one input. -/
def scionsBestWrong : ChangeSpec := { name := "scionsBest", fn := fun _ => fun
  | [d] => { results := [.lit (.bool false)], args := [d] }
  | _ => none }
def ScionsBestWrongFalsely : Prop := scionsBestRow.holds Try.pinned (OpenSpec.ofChange scionsBestWrong)

/-- 'pippinlaw06.ScionsSafe': WHATEVER THE INPUT: true; the input reads as it did. -/
def scionsSafeSpec : ChangeSpec := { name := "scionsSafe", fn := fun _ => fun
  | [d] => { results := [.lit (.bool true)], args := [d] }
  | _ => none }
def scionsSafeRow : OpenClaim := { program := "ytnnngbnimmcjiaa", sum := "f115a66a74a2f90d4d87ae4d1d41dbd80b6796b69775530a9e721cff527aa68f", func := "pippin/pippinlaw06.ScionsSafe", spec := "scionsSafe", unfollowed := true, recurses := true, apart := false }
def ScionsSafeSaid : Prop := scionsSafeRow.holds Try.pinned (OpenSpec.ofChange scionsSafeSpec)

/-- ITS FALSE NEIGHBOUR: 'it returns false'. Refute it at one input. -/
def scionsSafeWrong : ChangeSpec := { name := "scionsSafe", fn := fun _ => fun
  | [d] => { results := [.lit (.bool false)], args := [d] }
  | _ => none }
def ScionsSafeWrongFalsely : Prop := scionsSafeRow.holds Try.pinned (OpenSpec.ofChange scionsSafeWrong)

/- THE SECOND FORM. 'bulk': how many values and letters a reading holds, each counted each time it is reached (what is shared counts as often as it is met; a slice's spare places count too). A statement '..UptoSaid' is the law's where the arguments, and the package variables that the reading takes, are together of bulk at most 1048576: NARROWER than '..Said'. Prove '..Said' where nothing that the law and all that it calls make is longer than what came in: it says more and counts as full. Else prove '..UptoSaid'. A law counts once. -/
mutual
def uptoBulk {H : Type} : DataW H → Nat
  | .lit (.string bytes) => bytes.length + 1
  | .lit _ => 1
  | .nil => 1
  | .ptr d => uptoBulk d + 1
  | .slice elems spare => uptoBulkAll elems + uptoBulkAll spare + 1
  | .agg parts => uptoBulkAll parts + 1
  | .iface _ d => uptoBulk d + 1
  | .map entries => uptoBulkEntries entries + 1
  | .held _ => 1
def uptoBulkAll {H : Type} : List (DataW H) → Nat
  | [] => 0
  | d :: r => uptoBulk d + uptoBulkAll r
def uptoBulkEntries {H : Type} : List (Lit × DataW H) → Nat
  | [] => 0
  | x :: r => uptoBulkEntry x + uptoBulkEntries r
def uptoBulkEntry {H : Type} : Lit × DataW H → Nat
  | (.string bytes, d) => bytes.length + uptoBulk d + 1
  | (_, d) => uptoBulk d + 1
 end
def uptoSmall : (H : Type) → List (DataW H) → Bool := fun _ ds => decide (uptoBulkAll ds ≤ 1048576)
def OpenSpec.upto (s : _root_.Go.ChangeSpec) : _root_.Go.OpenSpec := { _root_.Go.OpenSpec.ofChange s with cond := some uptoSmall }

/-- 'pippinlaw06.ScionsEach', WHERE WHAT IT READS IS OF BULK AT MOST 1048576: true; the input reads as it did. -/
def scionsEachUptoRow : OpenClaim := { program := "ytnnngbnimmcjiaa", sum := "f115a66a74a2f90d4d87ae4d1d41dbd80b6796b69775530a9e721cff527aa68f", func := "pippin/pippinlaw06.ScionsEach", spec := "scionsEach", unfollowed := true, recurses := true, apart := false, narrowed := true }
def ScionsEachUptoSaid : Prop := scionsEachUptoRow.holds Try.pinned (OpenSpec.upto scionsEachSpec)

/-- 'pippinlaw06.ScionsRare', WHERE WHAT IT READS IS OF BULK AT MOST 1048576: true; the input reads as it did. -/
def scionsRareUptoRow : OpenClaim := { program := "ytnnngbnimmcjiaa", sum := "f115a66a74a2f90d4d87ae4d1d41dbd80b6796b69775530a9e721cff527aa68f", func := "pippin/pippinlaw06.ScionsRare", spec := "scionsRare", unfollowed := true, recurses := true, apart := false, narrowed := true }
def ScionsRareUptoSaid : Prop := scionsRareUptoRow.holds Try.pinned (OpenSpec.upto scionsRareSpec)

/-- 'pippinlaw06.ScionsMore', WHERE WHAT IT READS IS OF BULK AT MOST 1048576: true; the input reads as it did. -/
def scionsMoreUptoRow : OpenClaim := { program := "ytnnngbnimmcjiaa", sum := "f115a66a74a2f90d4d87ae4d1d41dbd80b6796b69775530a9e721cff527aa68f", func := "pippin/pippinlaw06.ScionsMore", spec := "scionsMore", unfollowed := true, recurses := true, apart := false, narrowed := true }
def ScionsMoreUptoSaid : Prop := scionsMoreUptoRow.holds Try.pinned (OpenSpec.upto scionsMoreSpec)

/-- 'pippinlaw06.ScionsFrost', WHERE WHAT IT READS IS OF BULK AT MOST 1048576: true; the input reads as it did. -/
def scionsFrostUptoRow : OpenClaim := { program := "ytnnngbnimmcjiaa", sum := "f115a66a74a2f90d4d87ae4d1d41dbd80b6796b69775530a9e721cff527aa68f", func := "pippin/pippinlaw06.ScionsFrost", spec := "scionsFrost", unfollowed := true, recurses := true, apart := false, narrowed := true }
def ScionsFrostUptoSaid : Prop := scionsFrostUptoRow.holds Try.pinned (OpenSpec.upto scionsFrostSpec)

/-- 'pippinlaw06.ScionsOrder', WHERE WHAT IT READS IS OF BULK AT MOST 1048576: true; the input reads as it did. -/
def scionsOrderUptoRow : OpenClaim := { program := "ytnnngbnimmcjiaa", sum := "f115a66a74a2f90d4d87ae4d1d41dbd80b6796b69775530a9e721cff527aa68f", func := "pippin/pippinlaw06.ScionsOrder", spec := "scionsOrder", unfollowed := true, recurses := true, apart := false, narrowed := true }
def ScionsOrderUptoSaid : Prop := scionsOrderUptoRow.holds Try.pinned (OpenSpec.upto scionsOrderSpec)

/-- 'pippinlaw06.ScionsFits', WHERE WHAT IT READS IS OF BULK AT MOST 1048576: true; the input reads as it did. -/
def scionsFitsUptoRow : OpenClaim := { program := "ytnnngbnimmcjiaa", sum := "f115a66a74a2f90d4d87ae4d1d41dbd80b6796b69775530a9e721cff527aa68f", func := "pippin/pippinlaw06.ScionsFits", spec := "scionsFits", unfollowed := true, recurses := true, apart := false, narrowed := true }
def ScionsFitsUptoSaid : Prop := scionsFitsUptoRow.holds Try.pinned (OpenSpec.upto scionsFitsSpec)

/-- 'pippinlaw06.ScionsMost', WHERE WHAT IT READS IS OF BULK AT MOST 1048576: true; the input reads as it did. -/
def scionsMostUptoRow : OpenClaim := { program := "ytnnngbnimmcjiaa", sum := "f115a66a74a2f90d4d87ae4d1d41dbd80b6796b69775530a9e721cff527aa68f", func := "pippin/pippinlaw06.ScionsMost", spec := "scionsMost", unfollowed := true, recurses := true, apart := false, narrowed := true }
def ScionsMostUptoSaid : Prop := scionsMostUptoRow.holds Try.pinned (OpenSpec.upto scionsMostSpec)

/-- 'pippinlaw06.ScionsBest', WHERE WHAT IT READS IS OF BULK AT MOST 1048576: true; the input reads as it did. -/
def scionsBestUptoRow : OpenClaim := { program := "ytnnngbnimmcjiaa", sum := "f115a66a74a2f90d4d87ae4d1d41dbd80b6796b69775530a9e721cff527aa68f", func := "pippin/pippinlaw06.ScionsBest", spec := "scionsBest", unfollowed := true, recurses := true, apart := false, narrowed := true }
def ScionsBestUptoSaid : Prop := scionsBestUptoRow.holds Try.pinned (OpenSpec.upto scionsBestSpec)

/-- 'pippinlaw06.ScionsSafe', WHERE WHAT IT READS IS OF BULK AT MOST 1048576: true; the input reads as it did. -/
def scionsSafeUptoRow : OpenClaim := { program := "ytnnngbnimmcjiaa", sum := "f115a66a74a2f90d4d87ae4d1d41dbd80b6796b69775530a9e721cff527aa68f", func := "pippin/pippinlaw06.ScionsSafe", spec := "scionsSafe", unfollowed := true, recurses := true, apart := false, narrowed := true }
def ScionsSafeUptoSaid : Prop := scionsSafeUptoRow.holds Try.pinned (OpenSpec.upto scionsSafeSpec)

end Rows
end Go.Proofs.Ytnnngbnimmcjiaa
