
import Derived.Test.YtgckofoaiojocaaL1
import Derived.Test.YtgckofoaiojocaaA11
import Derived.Test.YtgckofoaiojocaaW
namespace Go.Proofs.Ytgckofoaiojocaa
open Go.RowKit
set_option linter.unusedVariables false

def bOut (xs : List Int) : List Int := if allMay xs then utfZ xs else []
def bErr (xs : List Int) : Int := if allMay xs then 0 else 3
def rOut (bs : List Int) : List Int := (readL (bl bs)).getD []
def rErr (bs : List Int) : Int := if (readL (bl bs)).isSome then 0 else 3

def BOut (xs : List Int) (w : World) (e : Ending) (w' : World) : Prop := Below w.heap.size w w' ∧ ∃ v, e = .returned (.tuple #[v, .int .i64 (bErr xs)]) ∧ Ints .u8 w' v (bOut xs)
def ROut (bs : List Int) (w : World) (e : Ending) (w' : World) : Prop := Below w.heap.size w w' ∧ ∃ v, e = .returned (.tuple #[v, .int .i64 (rErr bs)]) ∧ Ints .i32 w' v (rOut bs)

theorem bytes_out {B : Nat} {xs : List Int} {w w' : World} {e : Ending} (h : BytesPost B xs w e w') : BOut xs w e w' := by
  obtain ⟨hb, ⟨hm, v, n, rfl, hown⟩ | ⟨hm, rfl⟩⟩ := h
  · refine ⟨hb, v, by simp [bErr, hm], ?_⟩
    have := (Ints.of_owns hown).1
    simpa [bOut, hm] using this
  · refine ⟨hb, _, by simp [bErr, hm]; rfl, ?_⟩
    simpa [bOut, hm] using ints_nil .u8 w'
theorem read_out {B : Nat} {bs : List Int} {w w' : World} {e : Ending} (h : ReadPost B bs w e w') : ROut bs w e w' := by
  obtain ⟨hb, ⟨rs, v, n, hm, rfl, hown⟩ | ⟨hm, rfl⟩⟩ := h
  · refine ⟨hb, v, by simp [rErr, hm], ?_⟩
    have := (Ints.of_owns hown).1
    simpa [rOut, hm] using this
  · refine ⟨hb, _, by simp [rErr, hm]; rfl, ?_⟩
    simpa [rOut, hm] using ints_nil .i32 w'
end Go.Proofs.Ytgckofoaiojocaa
