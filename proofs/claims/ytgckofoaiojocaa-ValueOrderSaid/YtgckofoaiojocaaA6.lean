
import Derived.Test.YtgckofoaiojocaaA5
namespace Go.Proofs.Ytgckofoaiojocaa
open Go.RowKit
set_option linter.unusedVariables false

theorem ints_one (k : IntKind) (zs : List Int) : ∀ u ∈ zs.map (Value.int k), u.oneCell' = true := by
  intro u hu
  simp at hu
  obtain ⟨x, _, rfl⟩ := hu
  rfl

/-- What a round of the document's Bytes does. -/
theorem rbytes_round {w wr w0 w1 : World} {B k n m : Nat} {v v' : Value} {xs : List Int} {x : Int} (hx : xs.getD k 0 = x) (hk : k < xs.length) (hB : w.heap.size = B)
    (h1 : w1.ownsRow B 5 1 v' (n + m) ((utfZ (xs.take k)).map (Value.int .u8) ++ (Lib.encodeRuneZ x).map (Value.int .u8))) (hown : wr.ownsRow B 5 1 v n ((utfZ (xs.take k)).map (Value.int .u8)))
    (h0 : Below wr.heap.size wr w0) (hg : w0.grownBy w1 v.ownBlock) (hb : Below B w wr) :
    (w1.ownsRow B 5 1 v' (n + m) ((utfZ (xs.take (k + 1))).map (Value.int .u8))) ∧ Below B w w1 := by
  subst hB
  refine ⟨?_, ?_⟩
  · rw [take_snoc xs k hk, hx, utfZ_snoc, List.map_append]
    exact h1
  · have hsz := hb.size
    have hsz0 := h0.size
    refine (hb.trans (h0.mono hsz)).grown hg (by omega) ?_
    intro j hj
    exact (hown.lt j hj).1

end Go.Proofs.Ytgckofoaiojocaa
