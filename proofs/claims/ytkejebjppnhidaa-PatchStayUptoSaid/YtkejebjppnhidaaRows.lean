/-
  No cell of these rows narrows 'for every input' (looked for: loops, veiled, ifaces, maps, wideKeys, modest, calm, conditions, laid).
  DERIVED. THE GIVEN ROWS OF THIS SEAT. 6 by the template 'for every input the law returns true; each argument reads behind the call as it read before'; 0 by the template 'total and deterministic' (their statements: YtkejebjppnhidaaTotals.lean).
  GIVEN WITH THE SEED: the statements are not yours to turn. If you find one false, say at which input.
  Laid BY PROGRAM, IN A SANDBOX (cutbox-rows.mjs): the forced cells as the released guide's own fill.sh prints them over the translation 57441fec447c00e8… (all of the seat's roots in one cut). By AI agents, Wed Nov 11 2026. No macro, syntax, notation, axiom, sorry.
-/
import Derived.Test.YtkejebjppnhidaaChecked
import GoSem.Claim
import GoSem.ClaimJoined
import GoSem.ClaimMapViews
import Derived.JoinedTies
import Derived.KernelRfl
namespace Go.Proofs.Ytkejebjppnhidaa
/- THE CELL 'sum', in the pinned program and in every row, IS THE sha256 OF THE DUMP (.gsa) THAT YtkejebjppnhidaaProg.lean LOADS. Nothing in Lean hashes anything: it is a label: what it is worth is what the hold of that sum in a sandbox is worth. -/
noncomputable def Try.pinned : Pinned := { name := "ytkejebjppnhidaa", sum := "57441fec447c00e84bb8da65c56187a9177cc6e5077a3dd0e2ab54ee50ae74ea", checked := Try.checked }
namespace Rows
def none {H : Type} : Left H := { results := [], args := [] }

/-- 'rubriclaw06.PatchMay': WHATEVER THE INPUT: true; the input reads as it did. -/
def patchMaySpec : ChangeSpec := { name := "patchMay", fn := fun _ => fun
  | [d1, d2, d3] => { results := [.lit (.bool true)], args := [d1, d2, d3] }
  | _ => none }
def patchMayRow : OpenClaim := { program := "ytkejebjppnhidaa", sum := "57441fec447c00e84bb8da65c56187a9177cc6e5077a3dd0e2ab54ee50ae74ea", func := "rubric/rubriclaw06.PatchMay", spec := "patchMay", inPlace := ["math.Float64frombits", "math.Float64bits"], unfollowed := true, recurses := true, apart := false }
def PatchMaySaid : Prop := patchMayRow.holds Try.pinned (OpenSpec.ofChange patchMaySpec)

/-- ITS FALSE NEIGHBOUR: 'it returns false'. Refute it at one input. -/
def patchMayWrong : ChangeSpec := { name := "patchMay", fn := fun _ => fun
  | [d1, d2, d3] => { results := [.lit (.bool false)], args := [d1, d2, d3] }
  | _ => none }
def PatchMayWrongFalsely : Prop := patchMayRow.holds Try.pinned (OpenSpec.ofChange patchMayWrong)

/-- 'rubriclaw06.PatchAlgebra': WHATEVER THE INPUT: true; the input reads as it did. -/
def patchAlgebraSpec : ChangeSpec := { name := "patchAlgebra", fn := fun _ => fun
  | [d1, d2, d3, d4] => { results := [.lit (.bool true)], args := [d1, d2, d3, d4] }
  | _ => none }
def patchAlgebraRow : OpenClaim := { program := "ytkejebjppnhidaa", sum := "57441fec447c00e84bb8da65c56187a9177cc6e5077a3dd0e2ab54ee50ae74ea", func := "rubric/rubriclaw06.PatchAlgebra", spec := "patchAlgebra", unfollowed := true, recurses := true, apart := false }
def PatchAlgebraSaid : Prop := patchAlgebraRow.holds Try.pinned (OpenSpec.ofChange patchAlgebraSpec)

/-- ITS FALSE NEIGHBOUR: 'it returns false'. Refute it at one input. -/
def patchAlgebraWrong : ChangeSpec := { name := "patchAlgebra", fn := fun _ => fun
  | [d1, d2, d3, d4] => { results := [.lit (.bool false)], args := [d1, d2, d3, d4] }
  | _ => none }
def PatchAlgebraWrongFalsely : Prop := patchAlgebraRow.holds Try.pinned (OpenSpec.ofChange patchAlgebraWrong)

/-- 'rubriclaw06.PatchBack': WHATEVER THE INPUT: true; the input reads as it did. -/
def patchBackSpec : ChangeSpec := { name := "patchBack", fn := fun _ => fun
  | [d1, d2, d3] => { results := [.lit (.bool true)], args := [d1, d2, d3] }
  | _ => none }
def patchBackRow : OpenClaim := { program := "ytkejebjppnhidaa", sum := "57441fec447c00e84bb8da65c56187a9177cc6e5077a3dd0e2ab54ee50ae74ea", func := "rubric/rubriclaw06.PatchBack", spec := "patchBack", unfollowed := true, recurses := true, apart := false }
def PatchBackSaid : Prop := patchBackRow.holds Try.pinned (OpenSpec.ofChange patchBackSpec)

/-- ITS FALSE NEIGHBOUR: 'it returns false'. Refute it at one input. -/
def patchBackWrong : ChangeSpec := { name := "patchBack", fn := fun _ => fun
  | [d1, d2, d3] => { results := [.lit (.bool false)], args := [d1, d2, d3] }
  | _ => none }
def PatchBackWrongFalsely : Prop := patchBackRow.holds Try.pinned (OpenSpec.ofChange patchBackWrong)

/-- 'rubriclaw06.PatchPast': WHATEVER THE INPUT: true; the input reads as it did. -/
def patchPastSpec : ChangeSpec := { name := "patchPast", fn := fun _ => fun
  | [d1, d2, d3] => { results := [.lit (.bool true)], args := [d1, d2, d3] }
  | _ => none }
def patchPastRow : OpenClaim := { program := "ytkejebjppnhidaa", sum := "57441fec447c00e84bb8da65c56187a9177cc6e5077a3dd0e2ab54ee50ae74ea", func := "rubric/rubriclaw06.PatchPast", spec := "patchPast", unfollowed := true, recurses := true, apart := false }
def PatchPastSaid : Prop := patchPastRow.holds Try.pinned (OpenSpec.ofChange patchPastSpec)

/-- ITS FALSE NEIGHBOUR: 'it returns false'. Refute it at one input. -/
def patchPastWrong : ChangeSpec := { name := "patchPast", fn := fun _ => fun
  | [d1, d2, d3] => { results := [.lit (.bool false)], args := [d1, d2, d3] }
  | _ => none }
def PatchPastWrongFalsely : Prop := patchPastRow.holds Try.pinned (OpenSpec.ofChange patchPastWrong)

/-- 'rubriclaw06.PatchParts': WHATEVER THE INPUT: true; the input reads as it did. -/
def patchPartsSpec : ChangeSpec := { name := "patchParts", fn := fun _ => fun
  | [d1, d2, d3] => { results := [.lit (.bool true)], args := [d1, d2, d3] }
  | _ => none }
def patchPartsRow : OpenClaim := { program := "ytkejebjppnhidaa", sum := "57441fec447c00e84bb8da65c56187a9177cc6e5077a3dd0e2ab54ee50ae74ea", func := "rubric/rubriclaw06.PatchParts", spec := "patchParts", inPlace := ["math.Float64frombits", "math.Float64bits"], unfollowed := true, recurses := true, apart := false }
def PatchPartsSaid : Prop := patchPartsRow.holds Try.pinned (OpenSpec.ofChange patchPartsSpec)

/-- ITS FALSE NEIGHBOUR: 'it returns false'. Refute it at one input. -/
def patchPartsWrong : ChangeSpec := { name := "patchParts", fn := fun _ => fun
  | [d1, d2, d3] => { results := [.lit (.bool false)], args := [d1, d2, d3] }
  | _ => none }
def PatchPartsWrongFalsely : Prop := patchPartsRow.holds Try.pinned (OpenSpec.ofChange patchPartsWrong)

/-- 'rubriclaw06.PatchStay': WHATEVER THE INPUT: true; the input reads as it did. -/
def patchStaySpec : ChangeSpec := { name := "patchStay", fn := fun _ => fun
  | [d1, d2, d3, d4, d5] => { results := [.lit (.bool true)], args := [d1, d2, d3, d4, d5] }
  | _ => none }
def patchStayRow : OpenClaim := { program := "ytkejebjppnhidaa", sum := "57441fec447c00e84bb8da65c56187a9177cc6e5077a3dd0e2ab54ee50ae74ea", func := "rubric/rubriclaw06.PatchStay", spec := "patchStay", inPlace := ["math.Float64frombits", "math.Float64bits"], unfollowed := true, recurses := true, apart := false }
def PatchStaySaid : Prop := patchStayRow.holds Try.pinned (OpenSpec.ofChange patchStaySpec)

/-- ITS FALSE NEIGHBOUR: 'it returns false'. Refute it at one input. -/
def patchStayWrong : ChangeSpec := { name := "patchStay", fn := fun _ => fun
  | [d1, d2, d3, d4, d5] => { results := [.lit (.bool false)], args := [d1, d2, d3, d4, d5] }
  | _ => none }
def PatchStayWrongFalsely : Prop := patchStayRow.holds Try.pinned (OpenSpec.ofChange patchStayWrong)

/- THE SECOND FORM. 'bulk': how many values and letters a reading holds, each counted each time it is reached (what is shared counts as often as it is met; a slice's spare places count too). A statement '..UptoSaid' is the law's where the arguments, and the package variables that the reading takes, are together of bulk at most 1048576: NARROWER than '..Said'. Prove '..Said' where nothing that the law and all that it calls make is longer than what came in: it says more and counts as full. Else prove '..UptoSaid'. A law counts once. -/
mutual
def uptoBulk {H : Type} : DataW H → Nat
  | .lit (.string bytes) => bytes.length + 1
  | .lit _ => 1
  | .nil => 1
  | .ptr d => uptoBulk d + 1
  | .slice elems spare => uptoBulkAll elems + uptoBulkAll spare + 1
  | .agg parts => uptoBulkAll parts + 1
  | .iface _ d => uptoBulk d + 1
  | .map entries => uptoBulkEntries entries + 1
  | .held _ => 1
def uptoBulkAll {H : Type} : List (DataW H) → Nat
  | [] => 0
  | d :: r => uptoBulk d + uptoBulkAll r
def uptoBulkEntries {H : Type} : List (Lit × DataW H) → Nat
  | [] => 0
  | x :: r => uptoBulkEntry x + uptoBulkEntries r
def uptoBulkEntry {H : Type} : Lit × DataW H → Nat
  | (.string bytes, d) => bytes.length + uptoBulk d + 1
  | (_, d) => uptoBulk d + 1
 end
def uptoSmall : (H : Type) → List (DataW H) → Bool := fun _ ds => decide (uptoBulkAll ds ≤ 1048576)
def OpenSpec.upto (s : _root_.Go.ChangeSpec) : _root_.Go.OpenSpec := { _root_.Go.OpenSpec.ofChange s with cond := some uptoSmall }

/-- 'rubriclaw06.PatchMay', WHERE WHAT IT READS IS OF BULK AT MOST 1048576: true; the input reads as it did. -/
def patchMayUptoRow : OpenClaim := { program := "ytkejebjppnhidaa", sum := "57441fec447c00e84bb8da65c56187a9177cc6e5077a3dd0e2ab54ee50ae74ea", func := "rubric/rubriclaw06.PatchMay", spec := "patchMay", inPlace := ["math.Float64frombits", "math.Float64bits"], unfollowed := true, recurses := true, apart := false, narrowed := true }
def PatchMayUptoSaid : Prop := patchMayUptoRow.holds Try.pinned (OpenSpec.upto patchMaySpec)

/-- 'rubriclaw06.PatchAlgebra', WHERE WHAT IT READS IS OF BULK AT MOST 1048576: true; the input reads as it did. -/
def patchAlgebraUptoRow : OpenClaim := { program := "ytkejebjppnhidaa", sum := "57441fec447c00e84bb8da65c56187a9177cc6e5077a3dd0e2ab54ee50ae74ea", func := "rubric/rubriclaw06.PatchAlgebra", spec := "patchAlgebra", unfollowed := true, recurses := true, apart := false, narrowed := true }
def PatchAlgebraUptoSaid : Prop := patchAlgebraUptoRow.holds Try.pinned (OpenSpec.upto patchAlgebraSpec)

/-- 'rubriclaw06.PatchBack', WHERE WHAT IT READS IS OF BULK AT MOST 1048576: true; the input reads as it did. -/
def patchBackUptoRow : OpenClaim := { program := "ytkejebjppnhidaa", sum := "57441fec447c00e84bb8da65c56187a9177cc6e5077a3dd0e2ab54ee50ae74ea", func := "rubric/rubriclaw06.PatchBack", spec := "patchBack", unfollowed := true, recurses := true, apart := false, narrowed := true }
def PatchBackUptoSaid : Prop := patchBackUptoRow.holds Try.pinned (OpenSpec.upto patchBackSpec)

/-- 'rubriclaw06.PatchPast', WHERE WHAT IT READS IS OF BULK AT MOST 1048576: true; the input reads as it did. -/
def patchPastUptoRow : OpenClaim := { program := "ytkejebjppnhidaa", sum := "57441fec447c00e84bb8da65c56187a9177cc6e5077a3dd0e2ab54ee50ae74ea", func := "rubric/rubriclaw06.PatchPast", spec := "patchPast", unfollowed := true, recurses := true, apart := false, narrowed := true }
def PatchPastUptoSaid : Prop := patchPastUptoRow.holds Try.pinned (OpenSpec.upto patchPastSpec)

/-- 'rubriclaw06.PatchParts', WHERE WHAT IT READS IS OF BULK AT MOST 1048576: true; the input reads as it did. -/
def patchPartsUptoRow : OpenClaim := { program := "ytkejebjppnhidaa", sum := "57441fec447c00e84bb8da65c56187a9177cc6e5077a3dd0e2ab54ee50ae74ea", func := "rubric/rubriclaw06.PatchParts", spec := "patchParts", inPlace := ["math.Float64frombits", "math.Float64bits"], unfollowed := true, recurses := true, apart := false, narrowed := true }
def PatchPartsUptoSaid : Prop := patchPartsUptoRow.holds Try.pinned (OpenSpec.upto patchPartsSpec)

/-- 'rubriclaw06.PatchStay', WHERE WHAT IT READS IS OF BULK AT MOST 1048576: true; the input reads as it did. -/
def patchStayUptoRow : OpenClaim := { program := "ytkejebjppnhidaa", sum := "57441fec447c00e84bb8da65c56187a9177cc6e5077a3dd0e2ab54ee50ae74ea", func := "rubric/rubriclaw06.PatchStay", spec := "patchStay", inPlace := ["math.Float64frombits", "math.Float64bits"], unfollowed := true, recurses := true, apart := false, narrowed := true }
def PatchStayUptoSaid : Prop := patchStayUptoRow.holds Try.pinned (OpenSpec.upto patchStaySpec)

end Rows
end Go.Proofs.Ytkejebjppnhidaa
