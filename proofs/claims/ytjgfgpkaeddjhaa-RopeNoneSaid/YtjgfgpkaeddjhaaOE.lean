
import Derived.Test.YtjgfgpkaeddjhaaOD
/- OE: the first slots, and those behind -/
namespace Go.Proofs.Ytjgfgpkaeddjhaa
open Go.RowKit
set_option linter.unusedVariables false

theorem size32 : (Try.prog.info? 21).map (·.size) = some 1 := by kernel_rfl
theorem row_list (xs : List Int) : (row xs) = (xs.map (Value.int .i32)).toArray := rfl
theorem rowAt_list {b : Nat} {t : TypeId} {xs : List Int} {w : World} (h : RowAt b t xs w) : w.heap[b]? = some (.cells (xs.map (Value.int .i32)).toArray t (0, 0)) := h
theorem row_cell {b off : Nat} {t : TypeId} {xs : List Int} {w : World} (h : RowAt b t xs w) {n : Nat} {j : Nat} {v : Value} (hj : (((xs.drop off).take n).map (Value.int .i32))[j]? = some v) : w.cell? ((⟨b, off, none⟩ : Addr).add j) = some v := by
  rw [Go.WideShapes.add_plain]
  rw [cell_of_row w b (off + j) _ t (0, 0) h]
  simp only [List.getElem?_map, List.getElem?_take, List.getElem?_drop] at hj
  split at hj
  · simpa [row] using hj
  · simp at hj

/-- The first i slots alone. -/
def fst (xs : List Int) (i : Nat) : List Int := xs.take i ++ List.replicate (32 - i) 0
def bhd (xs : List Int) (i : Nat) : List Int := xs.drop i ++ List.replicate i 0

theorem fst_len {xs : List Int} {i : Nat} (hx : xs.length = 32) (hi : i ≤ 32) : (fst xs i).length = 32 := by simp [fst]; omega
theorem bhd_len {xs : List Int} {i : Nat} (hx : xs.length = 32) (hi : i ≤ 32) : (bhd xs i).length = 32 := by simp [bhd]; omega
def zero32 : List Int := List.replicate 32 0
theorem zero32_len : zero32.length = 32 := rfl
theorem splice_fst {xs : List Int} {i : Nat} (hx : xs.length = 32) (hi : i ≤ 32) : splice (zero32.map (Value.int .i32)) 0 ((xs.take i).map (Value.int .i32)) = (fst xs i).map (Value.int .i32) := by
  have h : (xs.take i).length = i := by rw [List.length_take]; omega
  simp only [splice, List.take_zero, List.nil_append, List.length_map, h, Nat.zero_add, ← List.map_drop, ← List.map_append, fst, zero32, List.drop_replicate]
theorem splice_bhd {xs : List Int} {i : Nat} (hx : xs.length = 32) (hi : i ≤ 32) : splice (zero32.map (Value.int .i32)) 0 ((xs.drop i).map (Value.int .i32)) = (bhd xs i).map (Value.int .i32) := by
  have h : (xs.drop i).length = 32 - i := by rw [List.length_drop]; omega
  simp only [splice, List.take_zero, List.nil_append, List.length_map, h, Nat.zero_add, ← List.map_drop, ← List.map_append, bhd, zero32, List.drop_replicate]
  rw [show 32 - (32 - i) = i by omega]

/-- The rest of a walk asks of a world only this. -/
theorem with_world {P : Program} {c : Code} {Q : Exit → Act → World → Prop} {a : Act} {W0 : World} (F : World → Prop) (h0 : F W0) (h : ∀ W, F W → c.wp P Q a W) : c.wp P Q a W0 := h _ h0
theorem RowAt.setRow {b : Nat} {t : TypeId} {xs ys : List Int} {w : World} (h : RowAt b t xs w) : RowAt b t ys (w.setRow b (row ys)) := setRow_heap w b _ _ t _ h
theorem RowAt.setRow_other {b c : Nat} {t : TypeId} {xs : List Int} {w : World} (h : RowAt b t xs w) (hn : b ≠ c) (ys : Array Value) : RowAt b t xs (w.setRow c ys) := (Go.setRow_other w c b ys hn).trans h

/-- A parameter's row, and two rows of noughts. -/
structure Two (w : World) (t : TypeId) (xs : List Int) (W : World) : Prop where
  par : RowAt w.heap.size t xs W
  res : RowAt (w.heap.size + 1) t zero32 W
  var : RowAt (w.heap.size + 2) t zero32 W
  bel : Below w.heap.size w W
theorem two_new (w : World) (t : TypeId) (xs : List Int) : Two w t xs (((w.alloc (.cells (row xs) t)).alloc (.cells (row zero32) t)).alloc (.cells (row zero32) t)) :=
  ⟨((rowAt_new w t xs).alloc _).alloc _, by have := (rowAt_new (w.alloc (.cells (row xs) t)) t zero32).alloc (.cells (row zero32) t); simpa using this,
   by have := rowAt_new ((w.alloc (.cells (row xs) t)).alloc (.cells (row zero32) t)) t zero32; simpa using this,
   (((Below.refl _ _).alloc (Nat.le_refl _) _).alloc (by simp) _).alloc (by simp; omega) _⟩
theorem RowAt.under {B b : Nat} {t : TypeId} {xs : List Int} {w w' : World} (h : RowAt b t xs w) (hb : Below B w w') (hlt : b < B) : RowAt b t xs w' := (hb.block b hlt).trans h
theorem below_drew {B : Nat} (w : World) : Below B w w.drew := ⟨rfl, rfl, rfl, Nat.le_refl _, fun _ _ => rfl⟩
theorem info_slots32 (xs : List Int) (h : xs.length = 32) : (Try.prog.info? 56).map (·.size) = some (row xs).size := by rw [row_size, h]; exact info_slots
theorem info_chunk32 (xs : List Int) (h : xs.length = 32) : (Try.prog.info? 58).map (·.size) = some (row xs).size := by rw [row_size, h]; exact info_chunk

theorem first_any (xs : List Int) (hx : xs.length = 32) (i : Nat) (hi : i ≤ 32) (w : World) : Calls Try.prog 89 #[.agg (row xs), .int .i64 i] w fun e w' => e = .returned (.agg (row (fst xs i))) ∧ Below w.heap.size w w' := by
  have i0 : (0 : Int) ≤ (i : Int) := by omega
  have i1 : (i : Int) ≤ 32 := by omega
  have HS := Lib.hid (splice_fst hx hi)
  have hcl : ((xs.take i).map (Value.int .i32)).length = i := by simp; omega
  have HL := Lib.hid hcl
  have HC : Hid (∀ (W : World) (h : RowAt w.heap.size 56 xs W) j v, ((xs.take i).map (Value.int .i32))[j]? = some v → W.cell? ((⟨w.heap.size, 0, none⟩ : Addr).add j) = some v) := Lib.hid (fun W h j v hv => row_cell (off := 0) h (by simpa using hv))
  have HF := Lib.hid (fst_len hx hi)
  clear hcl
  go_enter Try.func89, Try.ntmps89
  go_wp2
  refine with_world (Two w 56 xs) (two_new w 56 xs) fun W hW => ?_
  have H := Lib.hid hW
  clear hW
  go_region_law
    (refine step_copy_splice rfl (.tmp 6) (.tmp 8) 22 22 rfl 21 Try.underlying22 size32 _ _ _ _ _ _ rfl rfl (w.heap.size + 2) 0 (zero32.map (Value.int .i32)) 56 H.out.var ((xs.take i).map (Value.int .i32)) (by rw [HL.out]; exact (Nat.min_eq_left hi).symm) (fun _ => ⟨rfl, _, rfl, HC.out _ H.out.par⟩) (by rw [HL.out, List.length_map, zero32_len]; omega) (ints_cells _) (w.heap.size + 2) _ (Below.refl _ _) (Nat.le_refl _) ?_; intro w4 hg4 hb4'; have hb4 := (below_drew W).trans hb4'; clear hb4')
  have R5 : Hid (RowAt (w.heap.size + 2) 56 (fst xs i) w4) := Lib.hid (by have := hg4.out; rw [HS.out] at this; exact this)
  have P5 : Hid (RowAt (w.heap.size + 1) 56 zero32 w4) := Lib.hid (H.out.res.under hb4 (show w.heap.size + 1 < w.heap.size + 2 by omega))
  have B5 := Lib.hid (below_setRow (H.out.bel.trans (hb4.mono (show w.heap.size ≤ w.heap.size + 2 by omega))) (show w.heap.size ≤ w.heap.size + 1 by omega) (row (fst xs i)))
  have Q5 := Lib.hid (P5.out.setRow (ys := fst xs i))
  clear hg4 hb4 H HC HS

  go_wp2_with (first
    | (refine wpList_load_roww 56 _ rfl _ rfl (by rfl) _ _ _ _ R5.out Try.underlying56 rfl (info_slots32 _ HF.out) ?_)
    | (refine wpList_store_row rfl 56 _ _ rfl _ (row (fst xs i)) rfl rfl _ _ P5.out (info_slots32 _ HF.out) (by rw [row_size, row_size, HF.out]; rfl) (row_one _) ?_))
  refine bodyPost_ret (v := .agg (row (fst xs i))) (results_cell_row Try.results89 _ _ _ _ _ _ _ rfl Q5.out Try.underlying56 rfl (info_slots32 _ HF.out)) rfl ⟨rfl, B5.out⟩

theorem behind_any (xs : List Int) (hx : xs.length = 32) (i : Nat) (hi : i ≤ 32) (w : World) : Calls Try.prog 90 #[.agg (row xs), .int .i64 i] w fun e w' => e = .returned (.agg (row (bhd xs i))) ∧ Below w.heap.size w w' := by
  have i0 : (0 : Int) ≤ (i : Int) := by omega
  have i1 : (i : Int) ≤ 32 := by omega
  have HS := Lib.hid (splice_bhd hx hi)
  have hcl : ((xs.drop i).map (Value.int .i32)).length = 32 - i := by simp; omega
  have HL := Lib.hid hcl
  have HC : Hid (∀ (W : World) (h : RowAt w.heap.size 56 xs W) j v, ((xs.drop i).map (Value.int .i32))[j]? = some v → W.cell? ((⟨w.heap.size, i, none⟩ : Addr).add j) = some v) := Lib.hid (fun W h j v hv => row_cell h (n := 32) (by rwa [List.take_of_length_le (by simp; omega)]))
  obtain ⟨A, hA⟩ : ∃ A : Addr, (if 32 = i then (⟨w.heap.size, 0, none⟩ : Addr) else ⟨w.heap.size, i, none⟩) = A := ⟨_, rfl⟩
  have HA := Lib.hid (show i < 32 → A = ⟨w.heap.size, i, none⟩ from fun h => by rw [← hA, if_neg (by omega)])
  have HF := Lib.hid (bhd_len hx hi)
  clear hcl
  go_enter Try.func90, Try.ntmps90
  go_wp2
  refine with_world (Two w 56 xs) (two_new w 56 xs) fun W hW => ?_
  have H := Lib.hid hW
  clear hW
  go_region_law
    (refine step_copy_splice rfl (.tmp 6) (.tmp 8) 22 22 rfl 21 Try.underlying22 size32 _ _ _ _ _ _ rfl rfl (w.heap.size + 2) 0 (zero32.map (Value.int .i32)) 56 H.out.var ((xs.drop i).map (Value.int .i32)) (by rw [HL.out]; exact (Nat.min_eq_left (by omega)).symm) (fun hp => ⟨rfl, _, congrArg some (HA.out (by rw [HL.out] at hp; omega)), HC.out _ H.out.par⟩) (by rw [HL.out, List.length_map, zero32_len]; omega) (ints_cells _) (w.heap.size + 2) _ (Below.refl _ _) (Nat.le_refl _) ?_; intro w4 hg4 hb4'; have hb4 := (below_drew W).trans hb4'; clear hb4')
  have R5 : Hid (RowAt (w.heap.size + 2) 56 (bhd xs i) w4) := Lib.hid (by have := hg4.out; rw [HS.out] at this; exact this)
  have P5 : Hid (RowAt (w.heap.size + 1) 56 zero32 w4) := Lib.hid (H.out.res.under hb4 (show w.heap.size + 1 < w.heap.size + 2 by omega))
  have B5 := Lib.hid (below_setRow (H.out.bel.trans (hb4.mono (show w.heap.size ≤ w.heap.size + 2 by omega))) (show w.heap.size ≤ w.heap.size + 1 by omega) (row (bhd xs i)))
  have Q5 := Lib.hid (P5.out.setRow (ys := bhd xs i))
  clear hg4 hb4 H HC HS

  go_wp2_with (first
    | (refine wpList_load_roww 56 _ rfl _ rfl (by rfl) _ _ _ _ R5.out Try.underlying56 rfl (info_slots32 _ HF.out) ?_)
    | (refine wpList_store_row rfl 56 _ _ rfl _ (row (bhd xs i)) rfl rfl _ _ P5.out (info_slots32 _ HF.out) (by rw [row_size, row_size, HF.out]; rfl) (row_one _) ?_))
  refine bodyPost_ret (v := .agg (row (bhd xs i))) (results_cell_row Try.results90 _ _ _ _ _ _ _ rfl Q5.out Try.underlying56 rfl (info_slots32 _ HF.out)) rfl ⟨rfl, B5.out⟩
end Go.Proofs.Ytjgfgpkaeddjhaa
