/-
  No cell of these rows narrows 'for every input' (looked for: loops, veiled, ifaces, maps, wideKeys, modest, calm, conditions, laid).
  DERIVED. THE GIVEN ROWS OF THIS SEAT. 5 by the template 'for every input the law returns true; each argument reads behind the call as it read before'; 0 by the template 'total and deterministic' (their statements: YthbehjilabedoaaTotals.lean).
  GIVEN WITH THE SEED: the statements are not yours to turn. If you find one false, say at which input.
  Laid BY PROGRAM, IN A SANDBOX (cutbox-rows.mjs): the forced cells as the released guide's own fill.sh prints them over the translation 92cad7a32b544e5b… (all of the seat's roots in one cut). By AI agents, Wed Nov 11 2026. No macro, syntax, notation, axiom, sorry.
-/
import Derived.Test.YthbehjilabedoaaChecked
import GoSem.Claim
import GoSem.ClaimJoined
import GoSem.ClaimMapViews
import Derived.JoinedTies
import Derived.KernelRfl
namespace Go.Proofs.Ythbehjilabedoaa
/- THE CELL 'sum', in the pinned program and in every row, IS THE sha256 OF THE DUMP (.gsa) THAT YthbehjilabedoaaProg.lean LOADS. Nothing in Lean hashes anything: it is a label: what it is worth is what the hold of that sum in a sandbox is worth. -/
noncomputable def Try.pinned : Pinned := { name := "ythbehjilabedoaa", sum := "92cad7a32b544e5be2be256491eff12ab4fb2ae865c90779185ba26ca4d396c8", checked := Try.checked }
namespace Rows
def none {H : Type} : Left H := { results := [], args := [] }

/-- 'rubriclaw05.AttrsSets': WHATEVER THE INPUT: true; the input reads as it did. -/
def attrsSetsSpec : ChangeSpec := { name := "attrsSets", fn := fun _ => fun
  | [d1, d2, d3, d4] => { results := [.lit (.bool true)], args := [d1, d2, d3, d4] }
  | _ => none }
def attrsSetsRow : OpenClaim := { program := "ythbehjilabedoaa", sum := "92cad7a32b544e5be2be256491eff12ab4fb2ae865c90779185ba26ca4d396c8", func := "rubric/rubriclaw05.AttrsSets", spec := "attrsSets", inPlace := ["math.Float64frombits", "math.Float64bits"], unfollowed := true, recurses := true, apart := false }
def AttrsSetsSaid : Prop := attrsSetsRow.holds Try.pinned (OpenSpec.ofChange attrsSetsSpec)

/-- ITS FALSE NEIGHBOUR: 'it returns false'. Refute it at one input. -/
def attrsSetsWrong : ChangeSpec := { name := "attrsSets", fn := fun _ => fun
  | [d1, d2, d3, d4] => { results := [.lit (.bool false)], args := [d1, d2, d3, d4] }
  | _ => none }
def AttrsSetsWrongFalsely : Prop := attrsSetsRow.holds Try.pinned (OpenSpec.ofChange attrsSetsWrong)

/-- 'rubriclaw05.AttrsOrder': WHATEVER THE INPUT: true; the input reads as it did. -/
def attrsOrderSpec : ChangeSpec := { name := "attrsOrder", fn := fun _ => fun
  | [d1, d2] => { results := [.lit (.bool true)], args := [d1, d2] }
  | _ => none }
def attrsOrderRow : OpenClaim := { program := "ythbehjilabedoaa", sum := "92cad7a32b544e5be2be256491eff12ab4fb2ae865c90779185ba26ca4d396c8", func := "rubric/rubriclaw05.AttrsOrder", spec := "attrsOrder", unfollowed := true, recurses := true, apart := false }
def AttrsOrderSaid : Prop := attrsOrderRow.holds Try.pinned (OpenSpec.ofChange attrsOrderSpec)

/-- ITS FALSE NEIGHBOUR: 'it returns false'. Refute it at one input. -/
def attrsOrderWrong : ChangeSpec := { name := "attrsOrder", fn := fun _ => fun
  | [d1, d2] => { results := [.lit (.bool false)], args := [d1, d2] }
  | _ => none }
def AttrsOrderWrongFalsely : Prop := attrsOrderRow.holds Try.pinned (OpenSpec.ofChange attrsOrderWrong)

/-- 'rubriclaw05.AttrsParts': WHATEVER THE INPUT: true; the input reads as it did. -/
def attrsPartsSpec : ChangeSpec := { name := "attrsParts", fn := fun _ => fun
  | [d1, d2] => { results := [.lit (.bool true)], args := [d1, d2] }
  | _ => none }
def attrsPartsRow : OpenClaim := { program := "ythbehjilabedoaa", sum := "92cad7a32b544e5be2be256491eff12ab4fb2ae865c90779185ba26ca4d396c8", func := "rubric/rubriclaw05.AttrsParts", spec := "attrsParts", inPlace := ["math.Float64frombits", "math.Float64bits"], unfollowed := true, recurses := true, apart := false }
def AttrsPartsSaid : Prop := attrsPartsRow.holds Try.pinned (OpenSpec.ofChange attrsPartsSpec)

/-- ITS FALSE NEIGHBOUR: 'it returns false'. Refute it at one input. -/
def attrsPartsWrong : ChangeSpec := { name := "attrsParts", fn := fun _ => fun
  | [d1, d2] => { results := [.lit (.bool false)], args := [d1, d2] }
  | _ => none }
def AttrsPartsWrongFalsely : Prop := attrsPartsRow.holds Try.pinned (OpenSpec.ofChange attrsPartsWrong)

/-- 'rubriclaw05.AttrsSame': WHATEVER THE INPUT: true; the input reads as it did. -/
def attrsSameSpec : ChangeSpec := { name := "attrsSame", fn := fun _ => fun
  | [d1, d2, d3] => { results := [.lit (.bool true)], args := [d1, d2, d3] }
  | _ => none }
def attrsSameRow : OpenClaim := { program := "ythbehjilabedoaa", sum := "92cad7a32b544e5be2be256491eff12ab4fb2ae865c90779185ba26ca4d396c8", func := "rubric/rubriclaw05.AttrsSame", spec := "attrsSame", unfollowed := true, recurses := true, apart := false }
def AttrsSameSaid : Prop := attrsSameRow.holds Try.pinned (OpenSpec.ofChange attrsSameSpec)

/-- ITS FALSE NEIGHBOUR: 'it returns false'. Refute it at one input. -/
def attrsSameWrong : ChangeSpec := { name := "attrsSame", fn := fun _ => fun
  | [d1, d2, d3] => { results := [.lit (.bool false)], args := [d1, d2, d3] }
  | _ => none }
def AttrsSameWrongFalsely : Prop := attrsSameRow.holds Try.pinned (OpenSpec.ofChange attrsSameWrong)

/-- 'rubriclaw05.AttrsStay': WHATEVER THE INPUT: true; the input reads as it did. -/
def attrsStaySpec : ChangeSpec := { name := "attrsStay", fn := fun _ => fun
  | [d1, d2, d3] => { results := [.lit (.bool true)], args := [d1, d2, d3] }
  | _ => none }
def attrsStayRow : OpenClaim := { program := "ythbehjilabedoaa", sum := "92cad7a32b544e5be2be256491eff12ab4fb2ae865c90779185ba26ca4d396c8", func := "rubric/rubriclaw05.AttrsStay", spec := "attrsStay", inPlace := ["math.Float64frombits", "math.Float64bits"], unfollowed := true, recurses := true, apart := false }
def AttrsStaySaid : Prop := attrsStayRow.holds Try.pinned (OpenSpec.ofChange attrsStaySpec)

/-- ITS FALSE NEIGHBOUR: 'it returns false'. Refute it at one input. -/
def attrsStayWrong : ChangeSpec := { name := "attrsStay", fn := fun _ => fun
  | [d1, d2, d3] => { results := [.lit (.bool false)], args := [d1, d2, d3] }
  | _ => none }
def AttrsStayWrongFalsely : Prop := attrsStayRow.holds Try.pinned (OpenSpec.ofChange attrsStayWrong)

/- THE SECOND FORM. 'bulk': how many values and letters a reading holds, each counted each time it is reached (what is shared counts as often as it is met; a slice's spare places count too). A statement '..UptoSaid' is the law's where the arguments, and the package variables that the reading takes, are together of bulk at most 1048576: NARROWER than '..Said'. Prove '..Said' where nothing that the law and all that it calls make is longer than what came in: it says more and counts as full. Else prove '..UptoSaid'. A law counts once. -/
mutual
def uptoBulk {H : Type} : DataW H → Nat
  | .lit (.string bytes) => bytes.length + 1
  | .lit _ => 1
  | .nil => 1
  | .ptr d => uptoBulk d + 1
  | .slice elems spare => uptoBulkAll elems + uptoBulkAll spare + 1
  | .agg parts => uptoBulkAll parts + 1
  | .iface _ d => uptoBulk d + 1
  | .map entries => uptoBulkEntries entries + 1
  | .held _ => 1
def uptoBulkAll {H : Type} : List (DataW H) → Nat
  | [] => 0
  | d :: r => uptoBulk d + uptoBulkAll r
def uptoBulkEntries {H : Type} : List (Lit × DataW H) → Nat
  | [] => 0
  | x :: r => uptoBulkEntry x + uptoBulkEntries r
def uptoBulkEntry {H : Type} : Lit × DataW H → Nat
  | (.string bytes, d) => bytes.length + uptoBulk d + 1
  | (_, d) => uptoBulk d + 1
 end
def uptoSmall : (H : Type) → List (DataW H) → Bool := fun _ ds => decide (uptoBulkAll ds ≤ 1048576)
def OpenSpec.upto (s : _root_.Go.ChangeSpec) : _root_.Go.OpenSpec := { _root_.Go.OpenSpec.ofChange s with cond := some uptoSmall }

/-- 'rubriclaw05.AttrsSets', WHERE WHAT IT READS IS OF BULK AT MOST 1048576: true; the input reads as it did. -/
def attrsSetsUptoRow : OpenClaim := { program := "ythbehjilabedoaa", sum := "92cad7a32b544e5be2be256491eff12ab4fb2ae865c90779185ba26ca4d396c8", func := "rubric/rubriclaw05.AttrsSets", spec := "attrsSets", inPlace := ["math.Float64frombits", "math.Float64bits"], unfollowed := true, recurses := true, apart := false, narrowed := true }
def AttrsSetsUptoSaid : Prop := attrsSetsUptoRow.holds Try.pinned (OpenSpec.upto attrsSetsSpec)

/-- 'rubriclaw05.AttrsOrder', WHERE WHAT IT READS IS OF BULK AT MOST 1048576: true; the input reads as it did. -/
def attrsOrderUptoRow : OpenClaim := { program := "ythbehjilabedoaa", sum := "92cad7a32b544e5be2be256491eff12ab4fb2ae865c90779185ba26ca4d396c8", func := "rubric/rubriclaw05.AttrsOrder", spec := "attrsOrder", unfollowed := true, recurses := true, apart := false, narrowed := true }
def AttrsOrderUptoSaid : Prop := attrsOrderUptoRow.holds Try.pinned (OpenSpec.upto attrsOrderSpec)

/-- 'rubriclaw05.AttrsParts', WHERE WHAT IT READS IS OF BULK AT MOST 1048576: true; the input reads as it did. -/
def attrsPartsUptoRow : OpenClaim := { program := "ythbehjilabedoaa", sum := "92cad7a32b544e5be2be256491eff12ab4fb2ae865c90779185ba26ca4d396c8", func := "rubric/rubriclaw05.AttrsParts", spec := "attrsParts", inPlace := ["math.Float64frombits", "math.Float64bits"], unfollowed := true, recurses := true, apart := false, narrowed := true }
def AttrsPartsUptoSaid : Prop := attrsPartsUptoRow.holds Try.pinned (OpenSpec.upto attrsPartsSpec)

/-- 'rubriclaw05.AttrsSame', WHERE WHAT IT READS IS OF BULK AT MOST 1048576: true; the input reads as it did. -/
def attrsSameUptoRow : OpenClaim := { program := "ythbehjilabedoaa", sum := "92cad7a32b544e5be2be256491eff12ab4fb2ae865c90779185ba26ca4d396c8", func := "rubric/rubriclaw05.AttrsSame", spec := "attrsSame", unfollowed := true, recurses := true, apart := false, narrowed := true }
def AttrsSameUptoSaid : Prop := attrsSameUptoRow.holds Try.pinned (OpenSpec.upto attrsSameSpec)

/-- 'rubriclaw05.AttrsStay', WHERE WHAT IT READS IS OF BULK AT MOST 1048576: true; the input reads as it did. -/
def attrsStayUptoRow : OpenClaim := { program := "ythbehjilabedoaa", sum := "92cad7a32b544e5be2be256491eff12ab4fb2ae865c90779185ba26ca4d396c8", func := "rubric/rubriclaw05.AttrsStay", spec := "attrsStay", inPlace := ["math.Float64frombits", "math.Float64bits"], unfollowed := true, recurses := true, apart := false, narrowed := true }
def AttrsStayUptoSaid : Prop := attrsStayUptoRow.holds Try.pinned (OpenSpec.upto attrsStaySpec)

end Rows
end Go.Proofs.Ythbehjilabedoaa
