
import Derived.Test.YtoppgdhidnpibaaOD
/- OE: the first slots, and those behind -/
namespace Go.Proofs.Ytoppgdhidnpibaa
open Go.RowKit
set_option linter.unusedVariables false

theorem size32 : (Try.prog.info? 21).map (·.size) = some 1 := by kernel_rfl
theorem row_list (xs : List Int) : (row xs) = (xs.map (Value.int .i32)).toArray := rfl
theorem rowAt_list {b : Nat} {t : TypeId} {xs : List Int} {w : World} (h : RowAt b t xs w) : w.heap[b]? = some (.cells (xs.map (Value.int .i32)).toArray t (0, 0)) := h
theorem row_cell {b off : Nat} {t : TypeId} {xs : List Int} {w : World} (h : RowAt b t xs w) {n : Nat} {j : Nat} {v : Value} (hj : (((xs.drop off).take n).map (Value.int .i32))[j]? = some v) : w.cell? ((⟨b, off, none⟩ : Addr).add j) = some v := by
  rw [Go.WideShapes.add_plain]
  rw [cell_of_row w b (off + j) _ t (0, 0) h]
  simp only [List.getElem?_map, List.getElem?_take, List.getElem?_drop] at hj
  split at hj
  · simpa [row] using hj
  · simp at hj

/-- The first i slots alone. -/
def fst (xs : List Int) (i : Nat) : List Int := xs.take i ++ List.replicate (32 - i) 0
def bhd (xs : List Int) (i : Nat) : List Int := xs.drop i ++ List.replicate i 0

theorem fst_len {xs : List Int} {i : Nat} (hx : xs.length = 32) (hi : i ≤ 32) : (fst xs i).length = 32 := by simp [fst]; omega
theorem bhd_len {xs : List Int} {i : Nat} (hx : xs.length = 32) (hi : i ≤ 32) : (bhd xs i).length = 32 := by simp [bhd]; omega
def zero32 : List Int := List.replicate 32 0
theorem zero32_len : zero32.length = 32 := rfl
theorem splice_fst {xs : List Int} {i : Nat} (hx : xs.length = 32) (hi : i ≤ 32) : splice (zero32.map (Value.int .i32)) 0 ((xs.take i).map (Value.int .i32)) = (fst xs i).map (Value.int .i32) := by
  have h : (xs.take i).length = i := by rw [List.length_take]; omega
  simp only [splice, List.take_zero, List.nil_append, List.length_map, h, Nat.zero_add, ← List.map_drop, ← List.map_append, fst, zero32, List.drop_replicate]
theorem splice_bhd {xs : List Int} {i : Nat} (hx : xs.length = 32) (hi : i ≤ 32) : splice (zero32.map (Value.int .i32)) 0 ((xs.drop i).map (Value.int .i32)) = (bhd xs i).map (Value.int .i32) := by
  have h : (xs.drop i).length = 32 - i := by rw [List.length_drop]; omega
  simp only [splice, List.take_zero, List.nil_append, List.length_map, h, Nat.zero_add, ← List.map_drop, ← List.map_append, bhd, zero32, List.drop_replicate]
  rw [show 32 - (32 - i) = i by omega]

/-- The rest of a walk asks of a world only this. -/
theorem with_world {P : Program} {c : Code} {Q : Exit → Act → World → Prop} {a : Act} {W0 : World} (F : World → Prop) (h0 : F W0) (h : ∀ W, F W → c.wp P Q a W) : c.wp P Q a W0 := h _ h0
theorem RowAt.setRow {b : Nat} {t : TypeId} {xs ys : List Int} {w : World} (h : RowAt b t xs w) : RowAt b t ys (w.setRow b (row ys)) := setRow_heap w b _ _ t _ h
theorem RowAt.setRow_other {b c : Nat} {t : TypeId} {xs : List Int} {w : World} (h : RowAt b t xs w) (hn : b ≠ c) (ys : Array Value) : RowAt b t xs (w.setRow c ys) := (Go.setRow_other w c b ys hn).trans h

/-- A parameter's row, and two rows of noughts. -/
structure Two (w : World) (t : TypeId) (xs : List Int) (W : World) : Prop where
  par : RowAt w.heap.size t xs W
  res : RowAt (w.heap.size + 1) t zero32 W
  var : RowAt (w.heap.size + 2) t zero32 W
  bel : Below w.heap.size w W
theorem two_new (w : World) (t : TypeId) (xs : List Int) : Two w t xs (((w.alloc (.cells (row xs) t)).alloc (.cells (row zero32) t)).alloc (.cells (row zero32) t)) :=
  ⟨((rowAt_new w t xs).alloc _).alloc _, by have := (rowAt_new (w.alloc (.cells (row xs) t)) t zero32).alloc (.cells (row zero32) t); simpa using this,
   by have := rowAt_new ((w.alloc (.cells (row xs) t)).alloc (.cells (row zero32) t)) t zero32; simpa using this,
   (((Below.refl _ _).alloc (Nat.le_refl _) _).alloc (by simp) _).alloc (by simp; omega) _⟩
theorem RowAt.under {B b : Nat} {t : TypeId} {xs : List Int} {w w' : World} (h : RowAt b t xs w) (hb : Below B w w') (hlt : b < B) : RowAt b t xs w' := (hb.block b hlt).trans h
theorem below_drew {B : Nat} (w : World) : Below B w w.drew := ⟨rfl, rfl, rfl, Nat.le_refl _, fun _ _ => rfl⟩
end Go.Proofs.Ytoppgdhidnpibaa
