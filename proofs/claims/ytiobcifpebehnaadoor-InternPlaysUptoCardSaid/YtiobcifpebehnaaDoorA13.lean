
import Derived.Test.YtiobcifpebehnaaDoorA12
/- A13: the reference's Get, Without, Part -/
namespace Go.Proofs.YtiobcifpebehnaaDoor
open Go.RowKit
set_option linter.unusedVariables false

theorem getA_step {xs : List Att} {key : Int} {k : Nat} (h : k < xs.length) (hf : getA (xs.take k) key = none) (hne : ¬ xs[k].key = key) : getA (xs.take (k + 1)) key = none := by
  unfold getA at *
  rw [atake_snoc h, List.find?_append, hf]; simp [hne]
theorem getA_found {xs : List Att} {key : Int} {k : Nat} (h : k < xs.length) (hf : getA (xs.take k) key = none) (he : xs[k].key = key) : getA xs key = some xs[k] := by
  unfold getA at *
  conv => lhs; rw [← List.take_append_drop (k + 1) xs, atake_snoc h]
  rw [List.find?_append, List.find?_append, hf]; simp [he]
theorem getA_end {xs : List Att} {key : Int} (hf : getA (xs.take xs.length) key = none) : getA xs key = none := by rwa [List.take_of_length_le (Nat.le_refl _)] at hf
@[reducible] def getV (xs : List Att) (key : Int) : Value := .tuple #[vv ((getA xs key).getD noAtt), .bool (getA xs key).isSome]
theorem getV_some {xs : List Att} {key : Int} {a : Att} (h : getA xs key = some a) : getV xs key = .tuple #[vv a, .bool true] := by unfold getV; rw [h]; rfl
theorem getV_none {xs : List Att} {key : Int} (h : getA xs key = none) : getV xs key = .tuple #[vv noAtt, .bool false] := by unfold getV; rw [h]; rfl

/-- The attributes of other keys. -/
def wout5 (xs : List Att) (key : Int) : List Att := xs.filter fun a => a.key != key
theorem wout_yes {xs : List Att} {key : Int} {k : Nat} (h : k < xs.length) (hb : ¬ xs[k].key = key) : wout5 (xs.take (k + 1)) key = wout5 (xs.take k) key ++ [xs[k]] := by
  unfold wout5; rw [atake_snoc h, List.filter_append]; simp [hb]
theorem wout_no {xs : List Att} {key : Int} {k : Nat} (h : k < xs.length) (hb : xs[k].key = key) : wout5 (xs.take (k + 1)) key = wout5 (xs.take k) key := by
  unfold wout5; rw [atake_snoc h, List.filter_append]; simp [hb]
theorem wout_le (xs : List Att) (key : Int) : (wout5 xs key).length ≤ xs.length := List.length_filter_le _ _
theorem wout_end (xs : List Att) (key : Int) : wout5 (xs.take xs.length) key = wout5 xs key := by rw [List.take_of_length_le (Nat.le_refl _)]

/-- A row that grows by one, or stays: what the loops of this layer keep. -/
def Grows (w : World) (ls : List Att) (v : Value) (wr : World) : Prop := Own5 w wr v ls ∧ Below w.heap.size w wr
theorem grows_stay {w wr w2 : World} {ls : List Att} {v : Value} (h : Grows w ls v wr) (hb : Below wr.heap.size wr w2) : Grows w ls v w2 := ⟨owns_below h.1 hb, below_add h.2 hb h.2.size⟩
theorem grows_more {w wr w2 w3 : World} {ls : List Att} {x : Att} {v v3 : Value} (h : Grows w ls v wr) (hb : Below wr.heap.size wr w2)
    (ho : w3.ownsRow w.heap.size 47 5 v3 (ls.length + 1) (fl attC ls ++ fl attC [x])) (hg : w2.grownBy w3 v.ownBlock) : Grows w (ls ++ [x]) v3 w3 := by
  obtain ⟨h1, h2⟩ := h
  refine ⟨?_, (below_add h2 hb h2.size).grown hg (below_add h2 hb h2.size).size (fun j hj => own_base h1 hj)⟩
  unfold Own5
  rw [fl_app, List.length_append]
  exact ho

end Go.Proofs.YtiobcifpebehnaaDoor
