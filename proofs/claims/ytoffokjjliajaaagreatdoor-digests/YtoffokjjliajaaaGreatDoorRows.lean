/-
  NARROWER THAN 'FOR EVERY INPUT', by the rows' own cells (each row's printed sentence says how): Dates: laid · Digests: laid.
  DERIVED. THE GIVEN ROWS OF THIS SEAT. 2 by the template 'for every input the law returns true; each argument reads behind the call as it read before'; 0 by the template 'total and deterministic' (their statements: YtoffokjjliajaaaGreatDoorTotals.lean).
  GIVEN WITH THE SEED: the statements are not yours to turn. If you find one false, say at which input.
  Laid BY PROGRAM, IN A SANDBOX (cutbox-rows.mjs): the forced cells as the released guide's own fill.sh prints them over the translation facff1198e6a3d66… (all of the seat's roots in one cut). By AI agents, Wed Nov 11 2026. No macro, syntax, notation, axiom, sorry.
-/
import Derived.Test.YtoffokjjliajaaaGreatDoorChecked
import GoSem.Claim
import GoSem.ClaimJoined
import GoSem.ClaimMapViews
import Derived.JoinedTies
import Derived.KernelRfl
namespace Go.Proofs.YtoffokjjliajaaaGreatDoor
/- THE CELL 'sum', in the pinned program and in every row, IS THE sha256 OF THE DUMP (.gsa) THAT YtoffokjjliajaaaGreatDoorProg.lean LOADS. Nothing in Lean hashes anything: it is a label: what it is worth is what the hold of that sum in a sandbox is worth. -/
noncomputable def Tryz.pinned : Pinned := { name := "ytoffokjjliajaaagreatdoor", sum := "facff1198e6a3d66a01f214df4351a3c4ea3cf39ac58e51d79734f312ebb5249", checked := Tryz.checked }
namespace Rows
def none {H : Type} : Left H := { results := [], args := [] }

/- WHAT THE LISTED PACKAGE-LEVEL VARIABLES READ AS WHEN THE CALL BEGINS. Each datum BY PROGRAM (the guide's laid-datum.mjs) off the statement by which the dump's own 'gosem.cut.vars' lays the variable. In a bare row this is a premise. The card (YtoffokjjliajaaaGreatDoorCards.lean) ties it to the program's text. -/
def laid_smear_digest_roundConstants {H : Type} : DataW H := .agg [.lit (.int .u32 1518500249), .lit (.int .u32 1859775393), .lit (.int .u32 2400959708), .lit (.int .u32 3395469782)]

/-- 'smearlaw.Dates': WHATEVER THE INPUT: true; the input reads as it did. -/
def datesSpec : ChangeSpec := { name := "dates", fn := fun _ => fun
  | [d] => { results := [.lit (.bool true)], args := [d] }
  | _ => none }
def datesRow : OpenClaim := { program := "ytoffokjjliajaaagreatdoor", sum := "facff1198e6a3d66a01f214df4351a3c4ea3cf39ac58e51d79734f312ebb5249", func := "smear/smearlaw.Dates", spec := "dates", recurses := true, named := ["smear/digest.roundConstants"], apart := false, laid := [("smear/digest.roundConstants", laid_smear_digest_roundConstants)] }
def DatesSaid : Prop := datesRow.holds Tryz.pinned (OpenSpec.ofChange datesSpec)

/-- ITS FALSE NEIGHBOUR: 'it returns false'. Refute it at one input. -/
def datesWrong : ChangeSpec := { name := "dates", fn := fun _ => fun
  | [d] => { results := [.lit (.bool false)], args := [d] }
  | _ => none }
def DatesWrongFalsely : Prop := datesRow.holds Tryz.pinned (OpenSpec.ofChange datesWrong)

/-- 'smearlaw.Digests': WHATEVER THE INPUT: true; the input reads as it did. -/
def digestsSpec : ChangeSpec := { name := "digests", fn := fun _ => fun
  | [d] => { results := [.lit (.bool true)], args := [d] }
  | _ => none }
def digestsRow : OpenClaim := { program := "ytoffokjjliajaaagreatdoor", sum := "facff1198e6a3d66a01f214df4351a3c4ea3cf39ac58e51d79734f312ebb5249", func := "smear/smearlaw.Digests", spec := "digests", recurses := true, named := ["smear/digest.roundConstants"], apart := false, laid := [("smear/digest.roundConstants", laid_smear_digest_roundConstants)] }
def DigestsSaid : Prop := digestsRow.holds Tryz.pinned (OpenSpec.ofChange digestsSpec)

/-- ITS FALSE NEIGHBOUR: 'it returns false'. Refute it at one input. -/
def digestsWrong : ChangeSpec := { name := "digests", fn := fun _ => fun
  | [d] => { results := [.lit (.bool false)], args := [d] }
  | _ => none }
def DigestsWrongFalsely : Prop := digestsRow.holds Tryz.pinned (OpenSpec.ofChange digestsWrong)

/- THE SECOND FORM. 'bulk': how many values and letters a reading holds, each counted each time it is reached (what is shared counts as often as it is met; a slice's spare places count too). A statement '..UptoSaid' is the law's where the arguments, and the package variables that the reading takes, are together of bulk at most 1048576: NARROWER than '..Said'. Prove '..Said' where nothing that the law and all that it calls make is longer than what came in: it says more and counts as full. Else prove '..UptoSaid'. A law counts once. -/
mutual
def uptoBulk {H : Type} : DataW H → Nat
  | .lit (.string bytes) => bytes.length + 1
  | .lit _ => 1
  | .nil => 1
  | .ptr d => uptoBulk d + 1
  | .slice elems spare => uptoBulkAll elems + uptoBulkAll spare + 1
  | .agg parts => uptoBulkAll parts + 1
  | .iface _ d => uptoBulk d + 1
  | .map entries => uptoBulkEntries entries + 1
  | .held _ => 1
def uptoBulkAll {H : Type} : List (DataW H) → Nat
  | [] => 0
  | d :: r => uptoBulk d + uptoBulkAll r
def uptoBulkEntries {H : Type} : List (Lit × DataW H) → Nat
  | [] => 0
  | x :: r => uptoBulkEntry x + uptoBulkEntries r
def uptoBulkEntry {H : Type} : Lit × DataW H → Nat
  | (.string bytes, d) => bytes.length + uptoBulk d + 1
  | (_, d) => uptoBulk d + 1
 end
def uptoSmall : (H : Type) → List (DataW H) → Bool := fun _ ds => decide (uptoBulkAll ds ≤ 1048576)
def OpenSpec.upto (s : _root_.Go.ChangeSpec) : _root_.Go.OpenSpec := { _root_.Go.OpenSpec.ofChange s with cond := some uptoSmall }

/-- 'smearlaw.Dates', WHERE WHAT IT READS IS OF BULK AT MOST 1048576: true; the input reads as it did. -/
def datesUptoRow : OpenClaim := { program := "ytoffokjjliajaaagreatdoor", sum := "facff1198e6a3d66a01f214df4351a3c4ea3cf39ac58e51d79734f312ebb5249", func := "smear/smearlaw.Dates", spec := "dates", recurses := true, named := ["smear/digest.roundConstants"], apart := false, laid := [("smear/digest.roundConstants", laid_smear_digest_roundConstants)], narrowed := true }
def DatesUptoSaid : Prop := datesUptoRow.holds Tryz.pinned (OpenSpec.upto datesSpec)

/-- 'smearlaw.Digests', WHERE WHAT IT READS IS OF BULK AT MOST 1048576: true; the input reads as it did. -/
def digestsUptoRow : OpenClaim := { program := "ytoffokjjliajaaagreatdoor", sum := "facff1198e6a3d66a01f214df4351a3c4ea3cf39ac58e51d79734f312ebb5249", func := "smear/smearlaw.Digests", spec := "digests", recurses := true, named := ["smear/digest.roundConstants"], apart := false, laid := [("smear/digest.roundConstants", laid_smear_digest_roundConstants)], narrowed := true }
def DigestsUptoSaid : Prop := digestsUptoRow.holds Tryz.pinned (OpenSpec.upto digestsSpec)

end Rows
end Go.Proofs.YtoffokjjliajaaaGreatDoor
