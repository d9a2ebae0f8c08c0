/-
  No cell of these rows narrows 'for every input' (looked for: loops, veiled, ifaces, maps, wideKeys, modest, calm, conditions, laid).
  DERIVED. THE GIVEN ROWS OF THIS SEAT. 11 by the template 'for every input the law returns true; each argument reads behind the call as it read before'; 0 by the template 'total and deterministic' (their statements: YtopajgnemeodeaaTotals.lean).
  GIVEN WITH THE SEED: the statements are not yours to turn. If you find one false, say at which input.
  Laid BY PROGRAM, IN A SANDBOX (cutbox-rows.mjs): the forced cells as the released guide's own fill.sh prints them over the translation 868732162fc67845… (all of the seat's roots in one cut). By AI agents, Wed Nov 11 2026. No macro, syntax, notation, axiom, sorry.
-/
import Derived.Test.YtopajgnemeodeaaChecked
import GoSem.Claim
import GoSem.ClaimJoined
import GoSem.ClaimMapViews
import Derived.JoinedTies
import Derived.KernelRfl
namespace Go.Proofs.Ytopajgnemeodeaa
/- THE CELL 'sum', in the pinned program and in every row, IS THE sha256 OF THE DUMP (.gsa) THAT YtopajgnemeodeaaProg.lean LOADS. Nothing in Lean hashes anything: it is a label: what it is worth is what the hold of that sum in a sandbox is worth. -/
noncomputable def Try.pinned : Pinned := { name := "ytopajgnemeodeaa", sum := "868732162fc67845d664cb2a1d0911e7d1ea9149620ba07d929d5564adb4069c", checked := Try.checked }
namespace Rows
def none {H : Type} : Left H := { results := [], args := [] }

/-- 'pippinlaw01.MarksWrong': WHATEVER THE INPUT: true; the input reads as it did. -/
def marksWrongSpec : ChangeSpec := { name := "marksWrong", fn := fun _ => fun
  | [d1, d2, d3] => { results := [.lit (.bool true)], args := [d1, d2, d3] }
  | _ => none }
def marksWrongRow : OpenClaim := { program := "ytopajgnemeodeaa", sum := "868732162fc67845d664cb2a1d0911e7d1ea9149620ba07d929d5564adb4069c", func := "pippin/pippinlaw01.MarksWrong", spec := "marksWrong", unfollowed := true, recurses := true, apart := false }
def MarksWrongSaid : Prop := marksWrongRow.holds Try.pinned (OpenSpec.ofChange marksWrongSpec)

/-- ITS FALSE NEIGHBOUR: 'it returns false'. Refute it at one input. -/
def marksWrongWrong : ChangeSpec := { name := "marksWrong", fn := fun _ => fun
  | [d1, d2, d3] => { results := [.lit (.bool false)], args := [d1, d2, d3] }
  | _ => none }
def MarksWrongWrongFalsely : Prop := marksWrongRow.holds Try.pinned (OpenSpec.ofChange marksWrongWrong)

/-- 'pippinlaw01.MarksSorts': WHATEVER THE INPUT: true; the input reads as it did. -/
def marksSortsSpec : ChangeSpec := { name := "marksSorts", fn := fun _ => fun
  | [d1, d2, d3] => { results := [.lit (.bool true)], args := [d1, d2, d3] }
  | _ => none }
def marksSortsRow : OpenClaim := { program := "ytopajgnemeodeaa", sum := "868732162fc67845d664cb2a1d0911e7d1ea9149620ba07d929d5564adb4069c", func := "pippin/pippinlaw01.MarksSorts", spec := "marksSorts", unfollowed := true, recurses := true, apart := false }
def MarksSortsSaid : Prop := marksSortsRow.holds Try.pinned (OpenSpec.ofChange marksSortsSpec)

/-- ITS FALSE NEIGHBOUR: 'it returns false'. Refute it at one input. -/
def marksSortsWrong : ChangeSpec := { name := "marksSorts", fn := fun _ => fun
  | [d1, d2, d3] => { results := [.lit (.bool false)], args := [d1, d2, d3] }
  | _ => none }
def MarksSortsWrongFalsely : Prop := marksSortsRow.holds Try.pinned (OpenSpec.ofChange marksSortsWrong)

/-- 'pippinlaw01.MarksNext': WHATEVER THE INPUT: true; the input reads as it did. -/
def marksNextSpec : ChangeSpec := { name := "marksNext", fn := fun _ => fun
  | [d1, d2, d3] => { results := [.lit (.bool true)], args := [d1, d2, d3] }
  | _ => none }
def marksNextRow : OpenClaim := { program := "ytopajgnemeodeaa", sum := "868732162fc67845d664cb2a1d0911e7d1ea9149620ba07d929d5564adb4069c", func := "pippin/pippinlaw01.MarksNext", spec := "marksNext", unfollowed := true, recurses := true, apart := false }
def MarksNextSaid : Prop := marksNextRow.holds Try.pinned (OpenSpec.ofChange marksNextSpec)

/-- ITS FALSE NEIGHBOUR: 'it returns false'. Refute it at one input. -/
def marksNextWrong : ChangeSpec := { name := "marksNext", fn := fun _ => fun
  | [d1, d2, d3] => { results := [.lit (.bool false)], args := [d1, d2, d3] }
  | _ => none }
def MarksNextWrongFalsely : Prop := marksNextRow.holds Try.pinned (OpenSpec.ofChange marksNextWrong)

/-- 'pippinlaw01.MarksApart': WHATEVER THE INPUT: true; the input reads as it did. -/
def marksApartSpec : ChangeSpec := { name := "marksApart", fn := fun _ => fun
  | [d1, d2] => { results := [.lit (.bool true)], args := [d1, d2] }
  | _ => none }
def marksApartRow : OpenClaim := { program := "ytopajgnemeodeaa", sum := "868732162fc67845d664cb2a1d0911e7d1ea9149620ba07d929d5564adb4069c", func := "pippin/pippinlaw01.MarksApart", spec := "marksApart", unfollowed := true, recurses := true, apart := false }
def MarksApartSaid : Prop := marksApartRow.holds Try.pinned (OpenSpec.ofChange marksApartSpec)

/-- ITS FALSE NEIGHBOUR: 'it returns false'. Refute it at one input. -/
def marksApartWrong : ChangeSpec := { name := "marksApart", fn := fun _ => fun
  | [d1, d2] => { results := [.lit (.bool false)], args := [d1, d2] }
  | _ => none }
def MarksApartWrongFalsely : Prop := marksApartRow.holds Try.pinned (OpenSpec.ofChange marksApartWrong)

/-- 'pippinlaw01.MarksTrue': WHATEVER THE INPUT: true; the input reads as it did. -/
def marksTrueSpec : ChangeSpec := { name := "marksTrue", fn := fun _ => fun
  | [d1, d2, d3] => { results := [.lit (.bool true)], args := [d1, d2, d3] }
  | _ => none }
def marksTrueRow : OpenClaim := { program := "ytopajgnemeodeaa", sum := "868732162fc67845d664cb2a1d0911e7d1ea9149620ba07d929d5564adb4069c", func := "pippin/pippinlaw01.MarksTrue", spec := "marksTrue", unfollowed := true, recurses := true, apart := false }
def MarksTrueSaid : Prop := marksTrueRow.holds Try.pinned (OpenSpec.ofChange marksTrueSpec)

/-- ITS FALSE NEIGHBOUR: 'it returns false'. Refute it at one input. -/
def marksTrueWrong : ChangeSpec := { name := "marksTrue", fn := fun _ => fun
  | [d1, d2, d3] => { results := [.lit (.bool false)], args := [d1, d2, d3] }
  | _ => none }
def MarksTrueWrongFalsely : Prop := marksTrueRow.holds Try.pinned (OpenSpec.ofChange marksTrueWrong)

/-- 'pippinlaw01.MarksMore': WHATEVER THE INPUT: true; the input reads as it did. -/
def marksMoreSpec : ChangeSpec := { name := "marksMore", fn := fun _ => fun
  | [d1, d2, d3] => { results := [.lit (.bool true)], args := [d1, d2, d3] }
  | _ => none }
def marksMoreRow : OpenClaim := { program := "ytopajgnemeodeaa", sum := "868732162fc67845d664cb2a1d0911e7d1ea9149620ba07d929d5564adb4069c", func := "pippin/pippinlaw01.MarksMore", spec := "marksMore", unfollowed := true, recurses := true, apart := false }
def MarksMoreSaid : Prop := marksMoreRow.holds Try.pinned (OpenSpec.ofChange marksMoreSpec)

/-- ITS FALSE NEIGHBOUR: 'it returns false'. Refute it at one input. -/
def marksMoreWrong : ChangeSpec := { name := "marksMore", fn := fun _ => fun
  | [d1, d2, d3] => { results := [.lit (.bool false)], args := [d1, d2, d3] }
  | _ => none }
def MarksMoreWrongFalsely : Prop := marksMoreRow.holds Try.pinned (OpenSpec.ofChange marksMoreWrong)

/-- 'pippinlaw01.MarksLeave': WHATEVER THE INPUT: true; the input reads as it did. -/
def marksLeaveSpec : ChangeSpec := { name := "marksLeave", fn := fun _ => fun
  | [d1, d2, d3] => { results := [.lit (.bool true)], args := [d1, d2, d3] }
  | _ => none }
def marksLeaveRow : OpenClaim := { program := "ytopajgnemeodeaa", sum := "868732162fc67845d664cb2a1d0911e7d1ea9149620ba07d929d5564adb4069c", func := "pippin/pippinlaw01.MarksLeave", spec := "marksLeave", unfollowed := true, recurses := true, apart := false }
def MarksLeaveSaid : Prop := marksLeaveRow.holds Try.pinned (OpenSpec.ofChange marksLeaveSpec)

/-- ITS FALSE NEIGHBOUR: 'it returns false'. Refute it at one input. -/
def marksLeaveWrong : ChangeSpec := { name := "marksLeave", fn := fun _ => fun
  | [d1, d2, d3] => { results := [.lit (.bool false)], args := [d1, d2, d3] }
  | _ => none }
def MarksLeaveWrongFalsely : Prop := marksLeaveRow.holds Try.pinned (OpenSpec.ofChange marksLeaveWrong)

/-- 'pippinlaw01.MarksOrder': WHATEVER THE INPUT: true; the input reads as it did. -/
def marksOrderSpec : ChangeSpec := { name := "marksOrder", fn := fun _ => fun
  | [d1, d2, d3] => { results := [.lit (.bool true)], args := [d1, d2, d3] }
  | _ => none }
def marksOrderRow : OpenClaim := { program := "ytopajgnemeodeaa", sum := "868732162fc67845d664cb2a1d0911e7d1ea9149620ba07d929d5564adb4069c", func := "pippin/pippinlaw01.MarksOrder", spec := "marksOrder", unfollowed := true, recurses := true, apart := false }
def MarksOrderSaid : Prop := marksOrderRow.holds Try.pinned (OpenSpec.ofChange marksOrderSpec)

/-- ITS FALSE NEIGHBOUR: 'it returns false'. Refute it at one input. -/
def marksOrderWrong : ChangeSpec := { name := "marksOrder", fn := fun _ => fun
  | [d1, d2, d3] => { results := [.lit (.bool false)], args := [d1, d2, d3] }
  | _ => none }
def MarksOrderWrongFalsely : Prop := marksOrderRow.holds Try.pinned (OpenSpec.ofChange marksOrderWrong)

/-- 'pippinlaw01.MarksTold': WHATEVER THE INPUT: true; the input reads as it did. -/
def marksToldSpec : ChangeSpec := { name := "marksTold", fn := fun _ => fun
  | [d1, d2, d3] => { results := [.lit (.bool true)], args := [d1, d2, d3] }
  | _ => none }
def marksToldRow : OpenClaim := { program := "ytopajgnemeodeaa", sum := "868732162fc67845d664cb2a1d0911e7d1ea9149620ba07d929d5564adb4069c", func := "pippin/pippinlaw01.MarksTold", spec := "marksTold", unfollowed := true, recurses := true, apart := false }
def MarksToldSaid : Prop := marksToldRow.holds Try.pinned (OpenSpec.ofChange marksToldSpec)

/-- ITS FALSE NEIGHBOUR: 'it returns false'. Refute it at one input. -/
def marksToldWrong : ChangeSpec := { name := "marksTold", fn := fun _ => fun
  | [d1, d2, d3] => { results := [.lit (.bool false)], args := [d1, d2, d3] }
  | _ => none }
def MarksToldWrongFalsely : Prop := marksToldRow.holds Try.pinned (OpenSpec.ofChange marksToldWrong)

/-- 'pippinlaw01.MarksAsk': WHATEVER THE INPUT: true; the input reads as it did. -/
def marksAskSpec : ChangeSpec := { name := "marksAsk", fn := fun _ => fun
  | [d1, d2, d3] => { results := [.lit (.bool true)], args := [d1, d2, d3] }
  | _ => none }
def marksAskRow : OpenClaim := { program := "ytopajgnemeodeaa", sum := "868732162fc67845d664cb2a1d0911e7d1ea9149620ba07d929d5564adb4069c", func := "pippin/pippinlaw01.MarksAsk", spec := "marksAsk", unfollowed := true, recurses := true, apart := false }
def MarksAskSaid : Prop := marksAskRow.holds Try.pinned (OpenSpec.ofChange marksAskSpec)

/-- ITS FALSE NEIGHBOUR: 'it returns false'. Refute it at one input. -/
def marksAskWrong : ChangeSpec := { name := "marksAsk", fn := fun _ => fun
  | [d1, d2, d3] => { results := [.lit (.bool false)], args := [d1, d2, d3] }
  | _ => none }
def MarksAskWrongFalsely : Prop := marksAskRow.holds Try.pinned (OpenSpec.ofChange marksAskWrong)

/-- 'pippinlaw01.MarksNothing': WHATEVER THE INPUT: true; the input reads as it did. -/
def marksNothingSpec : ChangeSpec := { name := "marksNothing", fn := fun _ => fun
  | [d1, d2] => { results := [.lit (.bool true)], args := [d1, d2] }
  | _ => none }
def marksNothingRow : OpenClaim := { program := "ytopajgnemeodeaa", sum := "868732162fc67845d664cb2a1d0911e7d1ea9149620ba07d929d5564adb4069c", func := "pippin/pippinlaw01.MarksNothing", spec := "marksNothing", unfollowed := true, recurses := true, apart := false }
def MarksNothingSaid : Prop := marksNothingRow.holds Try.pinned (OpenSpec.ofChange marksNothingSpec)

/-- ITS FALSE NEIGHBOUR: 'it returns false'. Refute it at one input. -/
def marksNothingWrong : ChangeSpec := { name := "marksNothing", fn := fun _ => fun
  | [d1, d2] => { results := [.lit (.bool false)], args := [d1, d2] }
  | _ => none }
def MarksNothingWrongFalsely : Prop := marksNothingRow.holds Try.pinned (OpenSpec.ofChange marksNothingWrong)

/- THE SECOND FORM. 'bulk': how many values and letters a reading holds, each counted each time it is reached (what is shared counts as often as it is met; a slice's spare places count too). A statement '..UptoSaid' is the law's where the arguments, and the package variables that the reading takes, are together of bulk at most 1048576: NARROWER than '..Said'. Prove '..Said' where nothing that the law and all that it calls make is longer than what came in: it says more and counts as full. Else prove '..UptoSaid'. A law counts once. -/
mutual
def uptoBulk {H : Type} : DataW H → Nat
  | .lit (.string bytes) => bytes.length + 1
  | .lit _ => 1
  | .nil => 1
  | .ptr d => uptoBulk d + 1
  | .slice elems spare => uptoBulkAll elems + uptoBulkAll spare + 1
  | .agg parts => uptoBulkAll parts + 1
  | .iface _ d => uptoBulk d + 1
  | .map entries => uptoBulkEntries entries + 1
  | .held _ => 1
def uptoBulkAll {H : Type} : List (DataW H) → Nat
  | [] => 0
  | d :: r => uptoBulk d + uptoBulkAll r
def uptoBulkEntries {H : Type} : List (Lit × DataW H) → Nat
  | [] => 0
  | x :: r => uptoBulkEntry x + uptoBulkEntries r
def uptoBulkEntry {H : Type} : Lit × DataW H → Nat
  | (.string bytes, d) => bytes.length + uptoBulk d + 1
  | (_, d) => uptoBulk d + 1
 end
def uptoSmall : (H : Type) → List (DataW H) → Bool := fun _ ds => decide (uptoBulkAll ds ≤ 1048576)
def OpenSpec.upto (s : _root_.Go.ChangeSpec) : _root_.Go.OpenSpec := { _root_.Go.OpenSpec.ofChange s with cond := some uptoSmall }

/-- 'pippinlaw01.MarksWrong', WHERE WHAT IT READS IS OF BULK AT MOST 1048576: true; the input reads as it did. -/
def marksWrongUptoRow : OpenClaim := { program := "ytopajgnemeodeaa", sum := "868732162fc67845d664cb2a1d0911e7d1ea9149620ba07d929d5564adb4069c", func := "pippin/pippinlaw01.MarksWrong", spec := "marksWrong", unfollowed := true, recurses := true, apart := false, narrowed := true }
def MarksWrongUptoSaid : Prop := marksWrongUptoRow.holds Try.pinned (OpenSpec.upto marksWrongSpec)

/-- 'pippinlaw01.MarksSorts', WHERE WHAT IT READS IS OF BULK AT MOST 1048576: true; the input reads as it did. -/
def marksSortsUptoRow : OpenClaim := { program := "ytopajgnemeodeaa", sum := "868732162fc67845d664cb2a1d0911e7d1ea9149620ba07d929d5564adb4069c", func := "pippin/pippinlaw01.MarksSorts", spec := "marksSorts", unfollowed := true, recurses := true, apart := false, narrowed := true }
def MarksSortsUptoSaid : Prop := marksSortsUptoRow.holds Try.pinned (OpenSpec.upto marksSortsSpec)

/-- 'pippinlaw01.MarksNext', WHERE WHAT IT READS IS OF BULK AT MOST 1048576: true; the input reads as it did. -/
def marksNextUptoRow : OpenClaim := { program := "ytopajgnemeodeaa", sum := "868732162fc67845d664cb2a1d0911e7d1ea9149620ba07d929d5564adb4069c", func := "pippin/pippinlaw01.MarksNext", spec := "marksNext", unfollowed := true, recurses := true, apart := false, narrowed := true }
def MarksNextUptoSaid : Prop := marksNextUptoRow.holds Try.pinned (OpenSpec.upto marksNextSpec)

/-- 'pippinlaw01.MarksApart', WHERE WHAT IT READS IS OF BULK AT MOST 1048576: true; the input reads as it did. -/
def marksApartUptoRow : OpenClaim := { program := "ytopajgnemeodeaa", sum := "868732162fc67845d664cb2a1d0911e7d1ea9149620ba07d929d5564adb4069c", func := "pippin/pippinlaw01.MarksApart", spec := "marksApart", unfollowed := true, recurses := true, apart := false, narrowed := true }
def MarksApartUptoSaid : Prop := marksApartUptoRow.holds Try.pinned (OpenSpec.upto marksApartSpec)

/-- 'pippinlaw01.MarksTrue', WHERE WHAT IT READS IS OF BULK AT MOST 1048576: true; the input reads as it did. -/
def marksTrueUptoRow : OpenClaim := { program := "ytopajgnemeodeaa", sum := "868732162fc67845d664cb2a1d0911e7d1ea9149620ba07d929d5564adb4069c", func := "pippin/pippinlaw01.MarksTrue", spec := "marksTrue", unfollowed := true, recurses := true, apart := false, narrowed := true }
def MarksTrueUptoSaid : Prop := marksTrueUptoRow.holds Try.pinned (OpenSpec.upto marksTrueSpec)

/-- 'pippinlaw01.MarksMore', WHERE WHAT IT READS IS OF BULK AT MOST 1048576: true; the input reads as it did. -/
def marksMoreUptoRow : OpenClaim := { program := "ytopajgnemeodeaa", sum := "868732162fc67845d664cb2a1d0911e7d1ea9149620ba07d929d5564adb4069c", func := "pippin/pippinlaw01.MarksMore", spec := "marksMore", unfollowed := true, recurses := true, apart := false, narrowed := true }
def MarksMoreUptoSaid : Prop := marksMoreUptoRow.holds Try.pinned (OpenSpec.upto marksMoreSpec)

/-- 'pippinlaw01.MarksLeave', WHERE WHAT IT READS IS OF BULK AT MOST 1048576: true; the input reads as it did. -/
def marksLeaveUptoRow : OpenClaim := { program := "ytopajgnemeodeaa", sum := "868732162fc67845d664cb2a1d0911e7d1ea9149620ba07d929d5564adb4069c", func := "pippin/pippinlaw01.MarksLeave", spec := "marksLeave", unfollowed := true, recurses := true, apart := false, narrowed := true }
def MarksLeaveUptoSaid : Prop := marksLeaveUptoRow.holds Try.pinned (OpenSpec.upto marksLeaveSpec)

/-- 'pippinlaw01.MarksOrder', WHERE WHAT IT READS IS OF BULK AT MOST 1048576: true; the input reads as it did. -/
def marksOrderUptoRow : OpenClaim := { program := "ytopajgnemeodeaa", sum := "868732162fc67845d664cb2a1d0911e7d1ea9149620ba07d929d5564adb4069c", func := "pippin/pippinlaw01.MarksOrder", spec := "marksOrder", unfollowed := true, recurses := true, apart := false, narrowed := true }
def MarksOrderUptoSaid : Prop := marksOrderUptoRow.holds Try.pinned (OpenSpec.upto marksOrderSpec)

/-- 'pippinlaw01.MarksTold', WHERE WHAT IT READS IS OF BULK AT MOST 1048576: true; the input reads as it did. -/
def marksToldUptoRow : OpenClaim := { program := "ytopajgnemeodeaa", sum := "868732162fc67845d664cb2a1d0911e7d1ea9149620ba07d929d5564adb4069c", func := "pippin/pippinlaw01.MarksTold", spec := "marksTold", unfollowed := true, recurses := true, apart := false, narrowed := true }
def MarksToldUptoSaid : Prop := marksToldUptoRow.holds Try.pinned (OpenSpec.upto marksToldSpec)

/-- 'pippinlaw01.MarksAsk', WHERE WHAT IT READS IS OF BULK AT MOST 1048576: true; the input reads as it did. -/
def marksAskUptoRow : OpenClaim := { program := "ytopajgnemeodeaa", sum := "868732162fc67845d664cb2a1d0911e7d1ea9149620ba07d929d5564adb4069c", func := "pippin/pippinlaw01.MarksAsk", spec := "marksAsk", unfollowed := true, recurses := true, apart := false, narrowed := true }
def MarksAskUptoSaid : Prop := marksAskUptoRow.holds Try.pinned (OpenSpec.upto marksAskSpec)

/-- 'pippinlaw01.MarksNothing', WHERE WHAT IT READS IS OF BULK AT MOST 1048576: true; the input reads as it did. -/
def marksNothingUptoRow : OpenClaim := { program := "ytopajgnemeodeaa", sum := "868732162fc67845d664cb2a1d0911e7d1ea9149620ba07d929d5564adb4069c", func := "pippin/pippinlaw01.MarksNothing", spec := "marksNothing", unfollowed := true, recurses := true, apart := false, narrowed := true }
def MarksNothingUptoSaid : Prop := marksNothingUptoRow.holds Try.pinned (OpenSpec.upto marksNothingSpec)

end Rows
end Go.Proofs.Ytopajgnemeodeaa
