/-
  No cell of these rows narrows 'for every input' (looked for: loops, veiled, ifaces, maps, wideKeys, modest, calm, conditions, laid).
  DERIVED. THE GIVEN ROWS OF THIS SEAT. 5 by the template 'for every input the law returns true; each argument reads behind the call as it read before'; 0 by the template 'total and deterministic' (their statements: YtohgopibimgjfaaGreatTotals.lean).
  GIVEN WITH THE SEED: the statements are not yours to turn. If you find one false, say at which input.
  Laid BY PROGRAM, IN A SANDBOX (cutbox-rows.mjs): the forced cells as the released guide's own fill.sh prints them over the translation 521467095def3151… (all of the seat's roots in one cut). By AI agents, Wed Nov 11 2026. No macro, syntax, notation, axiom, sorry.
-/
import Derived.Test.YtohgopibimgjfaaGreatChecked
import GoSem.Claim
import GoSem.ClaimJoined
import GoSem.ClaimMapViews
import Derived.JoinedTies
import Derived.KernelRfl
namespace Go.Proofs.YtohgopibimgjfaaGreat
/- THE CELL 'sum', in the pinned program and in every row, IS THE sha256 OF THE DUMP (.gsa) THAT YtohgopibimgjfaaGreatProg.lean LOADS. Nothing in Lean hashes anything: it is a label: what it is worth is what the hold of that sum in a sandbox is worth. -/
noncomputable def Tryz.pinned : Pinned := { name := "ytohgopibimgjfaagreat", sum := "521467095def3151d8cea2bbe8c365d3ebc622bb2b29699beb28057eb8497d12", checked := Tryz.checked }
namespace Rows
def none {H : Type} : Left H := { results := [], args := [] }

/-- 'rubriclaw17.CodecWrites': WHATEVER THE INPUT: true; the input reads as it did. -/
def codecWritesSpec : ChangeSpec := { name := "codecWrites", fn := fun _ => fun
  | [d1, d2] => { results := [.lit (.bool true)], args := [d1, d2] }
  | _ => none }
def codecWritesRow : OpenClaim := { program := "ytohgopibimgjfaagreat", sum := "521467095def3151d8cea2bbe8c365d3ebc622bb2b29699beb28057eb8497d12", func := "rubric/rubriclaw17.CodecWrites", spec := "codecWrites", inPlace := ["math.Float64frombits", "math.Float64bits", "slices.overlaps[rubric/api.Op]"], unfollowed := true, recurses := true, apart := false }
def CodecWritesSaid : Prop := codecWritesRow.holds Tryz.pinned (OpenSpec.ofChange codecWritesSpec)

/-- ITS FALSE NEIGHBOUR: 'it returns false'. Refute it at one input. -/
def codecWritesWrong : ChangeSpec := { name := "codecWrites", fn := fun _ => fun
  | [d1, d2] => { results := [.lit (.bool false)], args := [d1, d2] }
  | _ => none }
def CodecWritesWrongFalsely : Prop := codecWritesRow.holds Tryz.pinned (OpenSpec.ofChange codecWritesWrong)

/-- 'rubriclaw17.CodecReads': WHATEVER THE INPUT: true; the input reads as it did. -/
def codecReadsSpec : ChangeSpec := { name := "codecReads", fn := fun _ => fun
  | [d1, d2] => { results := [.lit (.bool true)], args := [d1, d2] }
  | _ => none }
def codecReadsRow : OpenClaim := { program := "ytohgopibimgjfaagreat", sum := "521467095def3151d8cea2bbe8c365d3ebc622bb2b29699beb28057eb8497d12", func := "rubric/rubriclaw17.CodecReads", spec := "codecReads", inPlace := ["math.Float64frombits", "math.Float64bits", "slices.overlaps[rubric/api.Op]"], unfollowed := true, recurses := true, apart := false }
def CodecReadsSaid : Prop := codecReadsRow.holds Tryz.pinned (OpenSpec.ofChange codecReadsSpec)

/-- ITS FALSE NEIGHBOUR: 'it returns false'. Refute it at one input. -/
def codecReadsWrong : ChangeSpec := { name := "codecReads", fn := fun _ => fun
  | [d1, d2] => { results := [.lit (.bool false)], args := [d1, d2] }
  | _ => none }
def CodecReadsWrongFalsely : Prop := codecReadsRow.holds Tryz.pinned (OpenSpec.ofChange codecReadsWrong)

/-- 'rubriclaw17.CodecOnly': WHATEVER THE INPUT: true; the input reads as it did. -/
def codecOnlySpec : ChangeSpec := { name := "codecOnly", fn := fun _ => fun
  | [d1, d2, d3] => { results := [.lit (.bool true)], args := [d1, d2, d3] }
  | _ => none }
def codecOnlyRow : OpenClaim := { program := "ytohgopibimgjfaagreat", sum := "521467095def3151d8cea2bbe8c365d3ebc622bb2b29699beb28057eb8497d12", func := "rubric/rubriclaw17.CodecOnly", spec := "codecOnly", inPlace := ["math.Float64frombits", "math.Float64bits", "slices.overlaps[rubric/api.Op]"], unfollowed := true, recurses := true, apart := false }
def CodecOnlySaid : Prop := codecOnlyRow.holds Tryz.pinned (OpenSpec.ofChange codecOnlySpec)

/-- ITS FALSE NEIGHBOUR: 'it returns false'. Refute it at one input. -/
def codecOnlyWrong : ChangeSpec := { name := "codecOnly", fn := fun _ => fun
  | [d1, d2, d3] => { results := [.lit (.bool false)], args := [d1, d2, d3] }
  | _ => none }
def CodecOnlyWrongFalsely : Prop := codecOnlyRow.holds Tryz.pinned (OpenSpec.ofChange codecOnlyWrong)

/-- 'rubriclaw17.CodecSame': WHATEVER THE INPUT: true; the input reads as it did. -/
def codecSameSpec : ChangeSpec := { name := "codecSame", fn := fun _ => fun
  | [d1, d2, d3] => { results := [.lit (.bool true)], args := [d1, d2, d3] }
  | _ => none }
def codecSameRow : OpenClaim := { program := "ytohgopibimgjfaagreat", sum := "521467095def3151d8cea2bbe8c365d3ebc622bb2b29699beb28057eb8497d12", func := "rubric/rubriclaw17.CodecSame", spec := "codecSame", inPlace := ["math.Float64frombits", "math.Float64bits", "slices.overlaps[rubric/api.Op]"], unfollowed := true, recurses := true, apart := false }
def CodecSameSaid : Prop := codecSameRow.holds Tryz.pinned (OpenSpec.ofChange codecSameSpec)

/-- ITS FALSE NEIGHBOUR: 'it returns false'. Refute it at one input. -/
def codecSameWrong : ChangeSpec := { name := "codecSame", fn := fun _ => fun
  | [d1, d2, d3] => { results := [.lit (.bool false)], args := [d1, d2, d3] }
  | _ => none }
def CodecSameWrongFalsely : Prop := codecSameRow.holds Tryz.pinned (OpenSpec.ofChange codecSameWrong)

/-- 'rubriclaw17.CodecKeys': WHATEVER THE INPUT: true; the input reads as it did. -/
def codecKeysSpec : ChangeSpec := { name := "codecKeys", fn := fun _ => fun
  | [d1, d2, d3] => { results := [.lit (.bool true)], args := [d1, d2, d3] }
  | _ => none }
def codecKeysRow : OpenClaim := { program := "ytohgopibimgjfaagreat", sum := "521467095def3151d8cea2bbe8c365d3ebc622bb2b29699beb28057eb8497d12", func := "rubric/rubriclaw17.CodecKeys", spec := "codecKeys", inPlace := ["math.Float64frombits", "math.Float64bits", "slices.overlaps[rubric/api.Op]"], unfollowed := true, recurses := true, apart := false }
def CodecKeysSaid : Prop := codecKeysRow.holds Tryz.pinned (OpenSpec.ofChange codecKeysSpec)

/-- ITS FALSE NEIGHBOUR: 'it returns false'. Refute it at one input. -/
def codecKeysWrong : ChangeSpec := { name := "codecKeys", fn := fun _ => fun
  | [d1, d2, d3] => { results := [.lit (.bool false)], args := [d1, d2, d3] }
  | _ => none }
def CodecKeysWrongFalsely : Prop := codecKeysRow.holds Tryz.pinned (OpenSpec.ofChange codecKeysWrong)

/- THE SECOND FORM. 'bulk': how many values and letters a reading holds, each counted each time it is reached (what is shared counts as often as it is met; a slice's spare places count too). A statement '..UptoSaid' is the law's where the arguments, and the package variables that the reading takes, are together of bulk at most 1048576: NARROWER than '..Said'. Prove '..Said' where nothing that the law and all that it calls make is longer than what came in: it says more and counts as full. Else prove '..UptoSaid'. A law counts once. -/
mutual
def uptoBulk {H : Type} : DataW H → Nat
  | .lit (.string bytes) => bytes.length + 1
  | .lit _ => 1
  | .nil => 1
  | .ptr d => uptoBulk d + 1
  | .slice elems spare => uptoBulkAll elems + uptoBulkAll spare + 1
  | .agg parts => uptoBulkAll parts + 1
  | .iface _ d => uptoBulk d + 1
  | .map entries => uptoBulkEntries entries + 1
  | .held _ => 1
def uptoBulkAll {H : Type} : List (DataW H) → Nat
  | [] => 0
  | d :: r => uptoBulk d + uptoBulkAll r
def uptoBulkEntries {H : Type} : List (Lit × DataW H) → Nat
  | [] => 0
  | x :: r => uptoBulkEntry x + uptoBulkEntries r
def uptoBulkEntry {H : Type} : Lit × DataW H → Nat
  | (.string bytes, d) => bytes.length + uptoBulk d + 1
  | (_, d) => uptoBulk d + 1
 end
def uptoSmall : (H : Type) → List (DataW H) → Bool := fun _ ds => decide (uptoBulkAll ds ≤ 1048576)
def OpenSpec.upto (s : _root_.Go.ChangeSpec) : _root_.Go.OpenSpec := { _root_.Go.OpenSpec.ofChange s with cond := some uptoSmall }

/-- 'rubriclaw17.CodecWrites', WHERE WHAT IT READS IS OF BULK AT MOST 1048576: true; the input reads as it did. -/
def codecWritesUptoRow : OpenClaim := { program := "ytohgopibimgjfaagreat", sum := "521467095def3151d8cea2bbe8c365d3ebc622bb2b29699beb28057eb8497d12", func := "rubric/rubriclaw17.CodecWrites", spec := "codecWrites", inPlace := ["math.Float64frombits", "math.Float64bits", "slices.overlaps[rubric/api.Op]"], unfollowed := true, recurses := true, apart := false, narrowed := true }
def CodecWritesUptoSaid : Prop := codecWritesUptoRow.holds Tryz.pinned (OpenSpec.upto codecWritesSpec)

/-- 'rubriclaw17.CodecReads', WHERE WHAT IT READS IS OF BULK AT MOST 1048576: true; the input reads as it did. -/
def codecReadsUptoRow : OpenClaim := { program := "ytohgopibimgjfaagreat", sum := "521467095def3151d8cea2bbe8c365d3ebc622bb2b29699beb28057eb8497d12", func := "rubric/rubriclaw17.CodecReads", spec := "codecReads", inPlace := ["math.Float64frombits", "math.Float64bits", "slices.overlaps[rubric/api.Op]"], unfollowed := true, recurses := true, apart := false, narrowed := true }
def CodecReadsUptoSaid : Prop := codecReadsUptoRow.holds Tryz.pinned (OpenSpec.upto codecReadsSpec)

/-- 'rubriclaw17.CodecOnly', WHERE WHAT IT READS IS OF BULK AT MOST 1048576: true; the input reads as it did. -/
def codecOnlyUptoRow : OpenClaim := { program := "ytohgopibimgjfaagreat", sum := "521467095def3151d8cea2bbe8c365d3ebc622bb2b29699beb28057eb8497d12", func := "rubric/rubriclaw17.CodecOnly", spec := "codecOnly", inPlace := ["math.Float64frombits", "math.Float64bits", "slices.overlaps[rubric/api.Op]"], unfollowed := true, recurses := true, apart := false, narrowed := true }
def CodecOnlyUptoSaid : Prop := codecOnlyUptoRow.holds Tryz.pinned (OpenSpec.upto codecOnlySpec)

/-- 'rubriclaw17.CodecSame', WHERE WHAT IT READS IS OF BULK AT MOST 1048576: true; the input reads as it did. -/
def codecSameUptoRow : OpenClaim := { program := "ytohgopibimgjfaagreat", sum := "521467095def3151d8cea2bbe8c365d3ebc622bb2b29699beb28057eb8497d12", func := "rubric/rubriclaw17.CodecSame", spec := "codecSame", inPlace := ["math.Float64frombits", "math.Float64bits", "slices.overlaps[rubric/api.Op]"], unfollowed := true, recurses := true, apart := false, narrowed := true }
def CodecSameUptoSaid : Prop := codecSameUptoRow.holds Tryz.pinned (OpenSpec.upto codecSameSpec)

/-- 'rubriclaw17.CodecKeys', WHERE WHAT IT READS IS OF BULK AT MOST 1048576: true; the input reads as it did. -/
def codecKeysUptoRow : OpenClaim := { program := "ytohgopibimgjfaagreat", sum := "521467095def3151d8cea2bbe8c365d3ebc622bb2b29699beb28057eb8497d12", func := "rubric/rubriclaw17.CodecKeys", spec := "codecKeys", inPlace := ["math.Float64frombits", "math.Float64bits", "slices.overlaps[rubric/api.Op]"], unfollowed := true, recurses := true, apart := false, narrowed := true }
def CodecKeysUptoSaid : Prop := codecKeysUptoRow.holds Tryz.pinned (OpenSpec.upto codecKeysSpec)

end Rows
end Go.Proofs.YtohgopibimgjfaaGreat
