
import Derived.Test.YtmbjjaflgdfihaaN18
/- R1: cells, in memory and as plain data -/
namespace Go.Proofs.Ytmbjjaflgdfihaa
open Go.RowKit Go.ChangeShapes Go.WideShapes Go.Deep
set_option linter.unusedVariables false
set_option maxRecDepth 100000

/-- A cell as plain data; a cell as it is laid. -/
structure Cl where
  r : Int
  s : List Att
  deriving DecidableEq
structure Cz where
  r : Int
  a : Option Addr
  c : Nat
  s : List Att
instance : Inhabited Cz := ⟨⟨0, none, 0, []⟩⟩
instance : Inhabited Cl := ⟨⟨0, []⟩⟩
@[reducible] def Cz.sv (z : Cz) : Value := .slice z.a z.s.length z.c
def Cz.o (z : Cz) : Cl := ⟨z.r, z.s⟩
@[reducible] def clcs (r : Int) (a : Option Addr) (l c : Nat) : Array Value := #[.int .i32 r, .slice a l c]
@[reducible] def Cz.cs (z : Cz) : Array Value := clcs z.r z.a z.s.length z.c
@[reducible] def Cz.v (z : Cz) : Value := .agg z.cs
def czC : Cel Cz := ⟨fun z => [.int .i32 z.r, .slice z.a z.s.length z.c], 2, fun _ => rfl, fun z u hu => by
  simp only [List.mem_cons, List.not_mem_nil, or_false] at hu
  rcases hu with rfl | rfl <;> rfl, by decide⟩
/-- What is true of its numbers. -/
structure CzW (z : Cz) : Prop where
  r : (Lit.int .i32 z.r).wf = true
  s : ∀ a ∈ z.s, AttW a
/-- A slice of cells that reads as these. -/
structure Drow (w : World) (v : Value) (zs : List Cz) : Prop where
  row : Row czC w v zs
  ok : ∀ z ∈ zs, Arow w z.sv z.s
/-- A cell at a place. -/
def CzAt (b o : Nat) (z : Cz) (w : World) : Prop := w.cell? ⟨b, o, none⟩ = some (.int .i32 z.r) ∧ w.cell? ⟨b, o + 1, none⟩ = some (.slice z.a z.s.length z.c)
section
variable {B B' : Nat} {w w' : World} {v : Value} {zs : List Cz} {S : Nat → Prop} {a : Option Addr} {n c : Nat}
theorem Drow.below (h : Drow w v zs) (hb : Below w.heap.size w w') : Drow w' v zs := ⟨h.row.below hb (Nat.le_refl _), fun z hz => (h.ok z hz).below hb (Nat.le_refl _)⟩
theorem Drow.shape (h : Drow w v zs) : ∃ a cap, v = .slice a zs.length cap := h.row.shape
theorem Drow.len (h : Drow w v zs) : zs.length ≤ 9223372036854775807 := h.row.len
theorem Drow.nil (w : World) : Drow w (.slice none 0 0) [] := ⟨Row.nil w, by simp⟩
theorem Drow.head {hi : Nat} (h : Drow w (.slice a n c) zs) (h2 : hi ≤ zs.length) : Drow w (.slice a hi c) (zs.take hi) := ⟨h.row.head h2, fun z hz => h.ok z (List.mem_of_mem_take hz)⟩
theorem CzAt.lt {b o : Nat} {z : Cz} (h : CzAt b o z w) : b < w.heap.size := World.block_lt_of_cell? w _ h.1
theorem CzAt.below {b o : Nat} {z : Cz} (h : CzAt b o z w) (hb : Below w.heap.size w w') : CzAt b o z w' := ⟨(hb.cell h.lt).trans h.1, (hb.cell h.lt).trans h.2⟩
theorem CzAt.new (w : World) (z : Cz) (t : TypeId) : CzAt w.heap.size 0 z (w.alloc (.cells z.cs t)) := by
  refine ⟨?_, ?_⟩ <;> (rw [cell_of_row _ w.heap.size _ _ t (0, 0) (heap_alloc_new w _)]; rfl)
theorem Drow.ats (h : Drow w (.slice a n c) zs) (h0 : 0 < zs.length) :
    ∃ b off, a = some ⟨b, off, none⟩ ∧ n = zs.length ∧ zs.length ≤ c ∧ c ≤ maxLen ∧ b < w.heap.size ∧ ∀ j (hj : j < zs.length), CzAt b (off + j * 2) zs[j] w := by
  obtain ⟨b, off, ha, hn, hc, hm, hb, hat, -⟩ := Row.opened h.row h0
  exact ⟨b, off, ha, hn, hc, hm, hb, fun j hj => ⟨hat j hj 0 _ rfl, hat j hj 1 _ rfl⟩⟩
theorem drow_built (w : World) (zs : List Cz) (t : TypeId) (hm : zs.length ≤ maxLen) (h : ∀ z ∈ zs, Arow w z.sv z.s) : Drow (w.alloc (.cells (fl czC zs).toArray t)) (.slice (some ⟨w.heap.size, 0, none⟩) zs.length zs.length) zs :=
  ⟨Row.built w t zs hm, fun z hz => (h z hz).below ((Below.refl _ _).alloc (Nat.le_refl _) _) (Nat.le_refl _)⟩
theorem drow_one (w : World) (z : Cz) (t : TypeId) (h : Arow w z.sv z.s) : Drow (w.alloc (.cells z.cs t)) (.slice (some ⟨w.heap.size, 0, none⟩) 1 1) [z] := drow_built w [z] t (by unfold maxLen; simp) (fun y hy => by obtain rfl := List.mem_singleton.1 hy; exact h)
end
theorem info_cell : ∃ i, Try.prog.info? 41 = some i ∧ i.zero = some (.agg #[.int .i32 0, .slice none 0 0]) ∧ i.size = 2 ∧ i.bytes = 32 := ⟨_, rfl, rfl, rfl, rfl⟩
theorem cl_eq {x y : Cz} : x.o = y.o ↔ x.r = y.r ∧ x.s = y.s := by unfold Cz.o; rw [Cl.mk.injEq]
theorem cmap_step {ys zs : List Cz} {k : Nat} (h1 : k < ys.length) (h2 : k < zs.length) (h : (ys.take k).map Cz.o = (zs.take k).map Cz.o) (he : ys[k].o = zs[k].o) : (ys.take (k + 1)).map Cz.o = (zs.take (k + 1)).map Cz.o := by
  rw [tsnoc h1, tsnoc h2, List.map_append, List.map_append, h, List.map_singleton, List.map_singleton, he]
theorem cmap_bad {ys zs : List Cz} {k : Nat} (h1 : k < ys.length) (h2 : k < zs.length) (he : ¬ ys[k].o = zs[k].o) : ¬ ys.map Cz.o = zs.map Cz.o := fun h => he (by
  have e1 : (ys.map Cz.o)[k]? = some ys[k].o := by rw [List.getElem?_map, List.getElem?_eq_getElem h1]; rfl
  have e2 : (zs.map Cz.o)[k]? = some zs[k].o := by rw [List.getElem?_map, List.getElem?_eq_getElem h2]; rfl
  rw [h, e2] at e1
  exact (Option.some.inj e1).symm)
theorem cmap_end {ys zs : List Cz} (hl : ys.length = zs.length) (h : (ys.take ys.length).map Cz.o = (zs.take ys.length).map Cz.o) : ys.map Cz.o = zs.map Cz.o := by
  rw [List.take_of_length_le (Nat.le_refl _), hl, List.take_of_length_le (Nat.le_refl _)] at h
  exact h

/-! ### cells that came in -/
section
variable {H : Type} {enc : TypeId × Value → H} {w : World} {base : Nat} {spare : Nat → Bool} {held : Bool}
theorem cl_fields : Try.prog.underlying 41 = some (.struct (Try.prog.fieldsOf 41)) := by kernel_rfl
theorem cl_one : oneCellFields Try.prog (Try.prog.fieldsOf 41) = true := by kernel_rfl
theorem cl_cells : Try.prog.cellsOf 41 = 2 := by kernel_rfl
theorem cl_types : (Try.prog.fieldsOf 41).map (·.type) = #[21, 39] := by kernel_rfl
theorem cl_size : (Try.prog.fieldsOf 41).size = 2 := by kernel_rfl
set_option maxRecDepth 100000 in
theorem open_cl {n : Nat} {cs : List Value} {y : DataW H × List MemPlace} (h : DataW.trod enc Try.prog w base spare held n 41 cs = some y) : ∃ a : Cz × DataW H, (Arow w a.1.sv a.1.s ∧ CzW a.1 ∧ ∃ e, a.2 = .agg [.lit (.int .i32 a.1.r), e] ∧ InA e a.1.s) ∧ cs = czC.c a.1 ∧ y.1 = a.2 := by
  obtain ⟨ys, m, -, hy, hlen, hys, hf⟩ := DataW.trod_struct cl_fields h
  rw [cl_cells] at hlen
  rw [cl_size] at hys
  have hj : ∀ (j : Nat) (t : TypeId), (#[21, 39] : Array TypeId)[j]? = some t → DataW.trod enc Try.prog w base spare held m t ((cs.drop j).take 1) = ys[j]? := by
    intro j t hjt
    rw [← cl_types, Array.getElem?_map, Option.map_eq_some_iff] at hjt
    obtain ⟨f, hfj, rfl⟩ := hjt
    obtain ⟨ho, hk⟩ := hone_of cl_one j f hfj
    have := hf j f hfj
    rwa [ho, hk] at this
  clear hf h
  match cs, hlen with
  | [c0, c1], _ =>
    match ys, hys with
    | [y0, y1], _ =>
      have h0 : DataW.trod enc Try.prog w base spare held m 21 [c0] = some y0 := hj 0 _ rfl
      have h1 : DataW.trod enc Try.prog w base spare held m 39 [c1] = some y1 := hj 1 _ rfl
      obtain ⟨a0, e0, rfl, w0⟩ := DataW.trod_int Try.underlying21 h0
      obtain ⟨xs, q1, q2, q3⟩ := open_ats h1
      simp only [List.cons.injEq, and_true] at e0
      subst e0
      obtain ⟨a, cap, rfl⟩ := q1.shape
      exact ⟨(⟨a0, a, cap, xs⟩, y.1), ⟨q1, ⟨w0, q2⟩, y1.1, by rw [hy]; rfl, q3⟩, rfl, rfl⟩
def czD (H : Type) : Cel (Cz × DataW H) := ⟨fun a => czC.c a.1, 2, fun _ => rfl, fun a => czC.one a.1, by decide⟩
theorem crow_fst {α β : Type} {C : Cel α} {D : Cel (α × β)} (hm : D.m = C.m) (hc : ∀ a, D.c a = C.c a.1) {v : Value} {xs : List (α × β)} (h : Row D w v xs) : Row C w v (xs.map Prod.fst) := by
  have e : fl D xs = fl C (xs.map Prod.fst) := by
    unfold fl
    rw [List.flatMap_map]
    congr 1
    funext a
    exact hc a
  rcases h with ⟨a, cap, rfl, rfl, h1, h2⟩ | ⟨b, off, cap, rfl, h0, h1, h2, h3⟩
  · exact .inl ⟨a, cap, rfl, rfl, h1, h2⟩
  · refine .inr ⟨b, off, cap, by rw [List.length_map], by simpa using h0, by simpa using h1, h2, fun j u hu => h3 j u ?_⟩
    rw [e]; exact hu
set_option maxRecDepth 100000 in
theorem open_cells {n : Nat} {v : Value} {x : DataW H × List MemPlace} (h : DataW.trod enc Try.prog w base spare held n 23 [v] = some x) : ∃ cs : List Cz, Drow w v cs ∧ ∀ z ∈ cs, CzW z := by
  obtain ⟨xs, h1, h2, -⟩ := open_rows (czD H) (fun a => Arow w a.1.sv a.1.s ∧ CzW a.1) Prod.snd Try.underlying23 cl_cells (fun h => by obtain ⟨a, ha, hb⟩ := open_cl h; exact ⟨a, ⟨ha.1, ha.2.1⟩, hb⟩) h
  refine ⟨xs.map Prod.fst, ⟨crow_fst rfl (fun _ => rfl) h1, fun z hz => ?_⟩, fun z hz => ?_⟩
  · obtain ⟨a, ha, rfl⟩ := List.mem_map.1 hz
    exact (h2 a ha).1
  · obtain ⟨a, ha, rfl⟩ := List.mem_map.1 hz
    exact (h2 a ha).2
end
end Go.Proofs.Ytmbjjaflgdfihaa
