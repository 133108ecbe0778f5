
import Derived.Test.YtiobcifpebehnaaDoorA11
import Derived.Test.YtiobcifpebehnaaDoorS5
import Derived.Test.YtiobcifpebehnaaDoorS10
/- A12: Part -/
namespace Go.Proofs.YtiobcifpebehnaaDoor
open Go.RowKit
set_option linter.unusedVariables false

/-- Is an attribute in the part? -/
def partB (ks : List Key) (blk : Bool) (a : Att) : Bool :=
  match fnd ks a.key with
  | none => false
  | some k => k.blk == blk
def part5 (ks : List Key) (blk : Bool) (xs : List Att) : List Att := xs.filter (partB ks blk)
theorem part_yes {ks : List Key} {blk : Bool} {xs : List Att} {k : Nat} (h : k < xs.length) (hb : partB ks blk xs[k] = true) : part5 ks blk (xs.take (k + 1)) = part5 ks blk (xs.take k) ++ [xs[k]] := by
  unfold part5; rw [atake_snoc h, List.filter_append]; simp [hb]
theorem part_no {ks : List Key} {blk : Bool} {xs : List Att} {k : Nat} (h : k < xs.length) (hb : partB ks blk xs[k] = false) : part5 ks blk (xs.take (k + 1)) = part5 ks blk (xs.take k) := by
  unfold part5; rw [atake_snoc h, List.filter_append]; simp [hb]
theorem part_le (ks : List Key) (blk : Bool) (xs : List Att) : (part5 ks blk xs).length ≤ xs.length := List.length_filter_le _ _
theorem part_end (ks : List Key) (blk : Bool) (xs : List Att) : part5 ks blk (xs.take xs.length) = part5 ks blk xs := by rw [List.take_of_length_le (Nat.le_refl _)]
theorem partB_none {ks : List Key} {blk : Bool} {a : Att} (h : fnd ks a.key = none) : partB ks blk a = false := by unfold partB; rw [h]
theorem partB_some {ks : List Key} {blk : Bool} {a : Att} {k : Key} (h : fnd ks a.key = some k) : partB ks blk a = (k.blk == blk) := by unfold partB; rw [h]

/-- k attributes are gone over. -/
def PartRel (w : World) (ks : List Key) (blk : Bool) (xs : List Att) (k : Nat) (v : Value) (wr : World) : Prop := Own5 w wr v (part5 ks blk (xs.take k)) ∧ Below w.heap.size w wr
theorem part_init (w : World) (ks : List Key) (blk : Bool) (xs : List Att) {W : World} (hB : Below w.heap.size w W) : PartRel w ks blk xs 0 (.slice none 0 0) W := ⟨own5_nil _ _, hB⟩
theorem part_stay {w wr w2 : World} {ks : List Key} {blk : Bool} {xs : List Att} {k : Nat} {v : Value} (h : PartRel w ks blk xs k v wr) (hb : Below wr.heap.size wr w2) (hk : k < xs.length) (hn : partB ks blk xs[k] = false) : PartRel w ks blk xs (k + 1) v w2 := by
  obtain ⟨h1, h2⟩ := h
  refine ⟨?_, below_add h2 hb h2.size⟩
  rw [part_no hk hn]
  exact owns_below h1 hb
theorem part_more {w wr w2 w3 : World} {ks : List Key} {blk : Bool} {xs : List Att} {k : Nat} {v v3 : Value} (h : PartRel w ks blk xs k v wr) (hb : Below wr.heap.size wr w2) (hk : k < xs.length) (hn : partB ks blk xs[k] = true)
    (ho : w3.ownsRow w.heap.size 47 5 v3 ((part5 ks blk (xs.take k)).length + 1) (fl attC (part5 ks blk (xs.take k)) ++ fl attC [xs[k]])) (hg : w2.grownBy w3 v.ownBlock) : PartRel w ks blk xs (k + 1) v3 w3 := by
  obtain ⟨h1, h2⟩ := h
  refine ⟨?_, (below_add h2 hb h2.size).grown hg (below_add h2 hb h2.size).size (fun j hj => own_base h1 hj)⟩
  rw [part_yes hk hn]
  unfold Own5
  rw [fl_app, List.length_append]
  exact ho

end Go.Proofs.YtiobcifpebehnaaDoor
