
import Derived.Test.YthbehjilabedoaaA30
/- A31: AttrsSets: what its loop keeps -/
namespace Go.Proofs.Ythbehjilabedoaa
open Go.RowKit
set_option linter.unusedVariables false

theorem wout_eq {xs : List Att} (key : Int) (hr : Rise xs) : wout5 xs key = without5 xs key := by
  refine rise_ext _ _ (hr.sublist List.filter_sublist) (rise_without key hr) fun k => ?_
  rw [without_mem]
  unfold wout5
  rw [List.mem_filter]
  simp

theorem own_fact {w w' W : World} {v : Value} {ys : List Att} (h : Own5 w w' v ys) (hb : Below w'.heap.size w' W) :
    W.ownsRow w.heap.size 28 5 v ys.length (fl attC ys) ∧ ∀ g, v.ownBlock = some g → g < w'.heap.size :=
  ⟨owns_below h hb, fun g hg => owns_lt h hg⟩
theorem want_fact {w w' W : World} {v : Value} {ys : List Att} {lo hi : Nat} (h : Own5 w w' v ys) (hb : Below w'.heap.size w' W) (hs : hi ≤ w.heap.size) : ∀ wr, Out lo hi W wr → Arow wr v ys := fun wr ho =>
  (Row.of_owns (C := attC) (ho.owns (owns_below h hb) hs)).1
theorem low_fact {w W : World} {v : Value} {ys : List Att} {lo hi : Nat} (h : Arow w v ys) (hb : Below w.heap.size w W) (hs : w.heap.size ≤ lo) : ∀ wr, Out lo hi W wr → Arow wr v ys := fun wr ho =>
  h.below (hb.trans (ho.below.mono hs)) (Nat.le_refl _)
theorem at_fact {w W : World} {B : Nat} {k n f : Int} {s : ByteArray} {lo hi : Nat} (h : At B k n f s w) (hb : Below w.heap.size w W) (hs : w.heap.size ≤ lo) : ∀ wr, Out lo hi W wr → At B k n f s wr := fun wr ho =>
  h.below (hb.trans (ho.below.mono hs))
theorem cell_fact {w W : World} {b j : Nat} {v : Value} {lo hi : Nat} (h : w.cell? ⟨b, j, none⟩ = some v) (hb : Below w.heap.size w W) (hs : hi ≤ b) : ∀ wr, Out lo hi W wr → wr.cell? ⟨b, j, none⟩ = some v := fun wr ho =>
  ((ho.cell (p := ⟨b, j, none⟩) (.inr hs)).trans (hb.cell (p := ⟨b, j, none⟩) (World.block_lt_of_cell? w _ h))).trans h
theorem five_new (w : World) (x0 x1 x2 x3 x4 : Value) (t : TypeId) {W : World} (hW : w.alloc (.cells #[x0, x1, x2, x3, x4] t) = W) :
    W.cell? ⟨w.heap.size, 0, none⟩ = some x0 ∧ W.cell? ⟨w.heap.size, 1, none⟩ = some x1 ∧ W.cell? ⟨w.heap.size, 2, none⟩ = some x2 ∧ W.cell? ⟨w.heap.size, 3, none⟩ = some x3 ∧ W.cell? ⟨w.heap.size, 4, none⟩ = some x4 ∧ Below w.heap.size w W ∧ W.heap.size = w.heap.size + 1 := by
  subst hW
  refine ⟨?_, ?_, ?_, ?_, ?_, (Below.refl _ _).alloc (Nat.le_refl _) _, by simp⟩ <;> (rw [cell_of_row _ w.heap.size _ _ t (0, 0) (heap_alloc_new w _)]; rfl)

/-- Six sizes, told by a number. -/
def six (s0 s1 s2 s3 s4 s5 : Nat) : Nat → Nat
  | 0 => s0
  | 1 => s1
  | 2 => s2
  | 3 => s3
  | 4 => s4
  | _ => s5
/-- Five of anything, told by a number. -/
def five {α : Type} (x0 x1 x2 x3 x4 : α) : Nat → α
  | 0 => x0
  | 1 => x1
  | 2 => x2
  | 3 => x3
  | _ => x4
/-- What the law's loop knows of the five lists: where they lie, what they hold, and what they are held against. -/
structure LoopF (W : World) (bL bM : Nat) (sl wl : Nat → Option Addr × Nat × Nat) (ys : Nat → List Att) (st : Nat → Nat) : Prop where
  own : ∀ j, j < 5 → W.ownsRow (st j) 28 5 (slV (sl j)) (ys j).length (fl attC (ys j))
  top : ∀ j, j < 5 → ∀ g, (slV (sl j)).ownBlock = some g → g < st (j + 1)
  low : ∀ j, j ≤ 5 → st 0 ≤ st j ∧ st j ≤ st 5
  step : ∀ j, j < 5 → st j ≤ st (j + 1)
  want : ∀ j, j < 5 → ∀ wr, Out (st 0) (st 5) W wr → Arow wr (slV (wl j)) (ys j)
  cl : ∀ j, j < 5 → ∀ wr, Out (st 0) (st 5) W wr → wr.cell? ⟨bL, j, none⟩ = some (slV (sl j))
  cm : ∀ j, j < 5 → ∀ wr, Out (st 0) (st 5) W wr → wr.cell? ⟨bM, j, none⟩ = some (slV (wl j))

/-- The worlds of a round's test. -/
def LsC (bL bM i : Nat) (x y : Option Addr × Nat × Nat) (W W' : World) : Prop := W'.cell? ⟨bL, i, none⟩ = some (slV x) ∧ W'.cell? ⟨bM, i, none⟩ = some (slV y) ∧ ∃ q, W' = W.drewN q
theorem LsC.drewN {bL bM i : Nat} {x y : Option Addr × Nat × Nat} {W w : World} (h : LsC bL bM i x y W w) (q : Nat) : LsC bL bM i x y W (w.drewN q) := by
  obtain ⟨h1, h2, p, rfl⟩ := h
  exact ⟨h1, h2, p + q, by simp⟩
theorem rsame_yes (v1 v2 : Value) (xs : List Att) (w : World) (h1 : Arow w v1 xs) (h2 : Arow w v2 xs) :
    Calls Try.prog 15 #[v1, v2] w fun e w' => e = .returned (.bool true) ∧ ∃ q, w' = w.drewN q := by
  have := rsame_any5 v1 v2 xs xs w h1 h2
  rwa [decide_eq_true rfl] at this
theorem LoopF.ls {W : World} {bL bM : Nat} {sl wl : Nat → Option Addr × Nat × Nat} {ys : Nat → List Att} {st : Nat → Nat} (F : LoopF W bL bM sl wl ys st) {i : Nat} (hi : i < 5) {wr : World} (ho : Out (st 0) (st i) W wr) :
    wr.ownsRow (st i) 28 5 (slV (sl i)) (ys i).length (fl attC (ys i)) := ho.owns (F.own i hi) (Nat.le_refl _)
theorem LoopF.rows {W : World} {bL bM : Nat} {sl wl : Nat → Option Addr × Nat × Nat} {ys : Nat → List Att} {st : Nat → Nat} (F : LoopF W bL bM sl wl ys st) {i : Nat} (hi : i < 5) {wr : World} (ho : Out (st 0) (st i) W wr) (q : Nat) :
    Arow (wr.drewN q) (slV (sl i)) (ys i) ∧ Arow (wr.drewN q) (slV (wl i)) (ys i) :=
  ⟨row_drewN (Row.of_owns (C := attC) (F.ls hi ho)).1 q, row_drewN (F.want i hi wr (ho.mono (F.low i (by omega)).2)) q⟩
end Go.Proofs.Ythbehjilabedoaa
