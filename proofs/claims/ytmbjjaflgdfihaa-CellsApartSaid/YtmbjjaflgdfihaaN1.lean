
import Derived.Test.YtmbjjaflgdfihaaD10
/- N1: an op; a row of ops that reads so; one that the call owns -/
namespace Go.Proofs.Ytmbjjaflgdfihaa
open Go.RowKit Go.ChangeShapes Go.WideShapes Go.Deep
set_option linter.unusedVariables false

/-- An op as plain data; an op as it is laid, with what its slices read as. -/
structure Opn where
  k : Int
  n : Int
  rs : List Int
  st : List Att
  pt : List Chg
  deriving DecidableEq
structure Oz where
  k : Int
  n : Int
  ra : Option Addr
  rc : Nat
  rs : List Int
  sa : Option Addr
  sc : Nat
  st : List Att
  pa : Option Addr
  pc : Nat
  pt : List Chg
instance : Inhabited Oz := ⟨⟨0, 0, none, 0, [], none, 0, [], none, 0, []⟩⟩
instance : Inhabited Opn := ⟨⟨0, 0, [], [], []⟩⟩
@[reducible] def Oz.rv (z : Oz) : Value := .slice z.ra z.rs.length z.rc
@[reducible] def Oz.sv (z : Oz) : Value := .slice z.sa z.st.length z.sc
@[reducible] def Oz.pv (z : Oz) : Value := .slice z.pa z.pt.length z.pc
def Oz.o (z : Oz) : Opn := ⟨z.k, z.n, z.rs, z.st, z.pt⟩
@[reducible] def opcs (k n : Int) (ra : Option Addr) (rl rc : Nat) (sa : Option Addr) (sl sc : Nat) (pa : Option Addr) (pl pc : Nat) : Array Value := #[.int .u8 k, .int .i64 n, .slice ra rl rc, .slice sa sl sc, .slice pa pl pc]
@[reducible] def Oz.cs (z : Oz) : Array Value := opcs z.k z.n z.ra z.rs.length z.rc z.sa z.st.length z.sc z.pa z.pt.length z.pc
@[reducible] def Oz.v (z : Oz) : Value := .agg z.cs
def ozC : Cel Oz := ⟨fun z => [.int .u8 z.k, .int .i64 z.n, .slice z.ra z.rs.length z.rc, .slice z.sa z.st.length z.sc, .slice z.pa z.pt.length z.pc], 5, fun _ => rfl, fun o u hu => by
  simp only [List.mem_cons, List.not_mem_nil, or_false] at hu
  rcases hu with rfl | rfl | rfl | rfl | rfl <;> rfl, by decide⟩
/-- What is true of its numbers. -/
structure OpW (z : Oz) : Prop where
  k : (Lit.int .u8 z.k).wf = true
  n : (Lit.int .i64 z.n).wf = true
  r : ∀ x ∈ z.rs, (Lit.int .i32 x).wf = true
  s : ∀ a ∈ z.st, AttW a
  p : ∀ c ∈ z.pt, ChgW c
/-- Its slices read so. -/
structure OpOk (w : World) (z : Oz) : Prop where
  r : Ints .i32 w z.rv z.rs
  s : Arow w z.sv z.st
  p : Crow w z.pv z.pt
structure Orow (w : World) (v : Value) (zs : List Oz) : Prop where
  row : Row ozC w v zs
  ok : ∀ z ∈ zs, OpOk w z
/-- An address that lies in no block of S, if there is anything at it. -/
def Na (S : Nat → Prop) (a : Option Addr) (n : Nat) : Prop := 0 < n → ∀ x, a = some x → ¬ S x.block
structure OpNa (S : Nat → Prop) (z : Oz) : Prop where
  r : Na S z.ra z.rs.length
  s : Na S z.sa z.st.length
  p : Na S z.pa z.pt.length

section
variable {w w' : World} {S : Nat → Prop} {k : IntKind} {a : Option Addr} {n c : Nat}
theorem Ints.off {xs : List Int} (h : Ints k w (.slice a n c) xs) (ho : Off S w w') (hn : Na S a n) : Ints k w' (.slice a n c) xs := by
  rcases h with h | ⟨b, off, cap, hv, h0, h1, h2, h3⟩
  · exact .inl h
  · injection hv with e1 e2 e3
    subst e1 e2 e3
    refine .inr ⟨b, off, _, rfl, h0, h1, h2, fun j hj => ?_⟩
    rw [← h3 j hj]
    have hl : b < w.heap.size := World.block_lt_of_cell? w _ (h3 j hj)
    simp only [World.cell?, ho.block b hl (hn h0 _ rfl)]
theorem Row.off {α : Type} {C : Cel α} {xs : List α} (h : Row C w (.slice a n c) xs) (ho : Off S w w') (hn : Na S a n) : Row C w' (.slice a n c) xs := by
  rcases h with h | ⟨b, off, cap, hv, h0, h1, h2, h3⟩
  · exact .inl h
  · injection hv with e1 e2 e3
    subst e1 e2 e3
    refine .inr ⟨b, off, _, rfl, h0, h1, h2, fun j u hu => ?_⟩
    rw [← h3 j u hu]
    have hl : b < w.heap.size := World.block_lt_of_cell? w _ (h3 j u hu)
    simp only [World.cell?, ho.block b hl (hn h0 _ rfl)]
theorem Ints.na {xs : List Int} (h : Ints k w (.slice a n c) xs) (hS : ∀ g, S g → w.heap.size ≤ g) : Na S a n := by
  rcases h with ⟨a', cap, hv, hx, -⟩ | ⟨b, off, cap, hv, h0, h1, h2, h3⟩
  · intro h0; injection hv with e1 e2 e3; omega
  · intro _ x hx hs
    injection hv with e1 e2 e3
    subst e1
    injection hx with hx
    subst hx
    have := World.block_lt_of_cell? w _ (h3 0 h0)
    have := hS _ hs
    simp only at *
    omega
theorem Row.na {α : Type} {C : Cel α} {xs : List α} (h : Row C w (.slice a n c) xs) (hS : ∀ g, S g → w.heap.size ≤ g) : Na S a n := by
  intro h0 x hx hs
  have hl : 0 < xs.length := by
    obtain ⟨a', c', e⟩ := h.shape
    injection e with _ e _
    omega
  obtain ⟨b, off, e, -, -, -, hb, -⟩ := h.opened hl
  rw [hx] at e
  injection e with e
  subst e
  have := hS _ hs
  simp only at *
  omega
theorem Na.mono {S' : Nat → Prop} (h : Na S a n) (hS : ∀ g, S' g → S g) : Na S' a n := fun h0 x hx hs => h h0 x hx (hS _ hs)
theorem OpOk.below {z : Oz} (h : OpOk w z) (hb : Below w.heap.size w w') : OpOk w' z := ⟨h.r.below hb, h.s.below hb (Nat.le_refl _), h.p.below hb (Nat.le_refl _)⟩
theorem OpOk.off {z : Oz} (h : OpOk w z) (ho : Off S w w') (hn : OpNa S z) : OpOk w' z := ⟨h.r.off ho hn.r, Row.off h.s ho hn.s, Row.off h.p ho hn.p⟩
theorem OpOk.na {z : Oz} (h : OpOk w z) (hS : ∀ g, S g → w.heap.size ≤ g) : OpNa S z := ⟨h.r.na hS, Row.na h.s hS, Row.na h.p hS⟩
theorem OpNa.mono {S' : Nat → Prop} {z : Oz} (h : OpNa S z) (hS : ∀ g, S' g → S g) : OpNa S' z := ⟨h.r.mono hS, h.s.mono hS, h.p.mono hS⟩
theorem Orow.below {v : Value} {zs : List Oz} (h : Orow w v zs) (hb : Below w.heap.size w w') : Orow w' v zs := ⟨h.row.below hb (Nat.le_refl _), fun z hz => (h.ok z hz).below hb⟩
theorem Orow.off {zs : List Oz} (h : Orow w (.slice a n c) zs) (ho : Off S w w') (hn : Na S a n) (hz : ∀ z ∈ zs, OpNa S z) : Orow w' (.slice a n c) zs := ⟨h.row.off ho hn, fun z h' => (h.ok z h').off ho (hz z h')⟩
theorem Orow.shape {v : Value} {zs : List Oz} (h : Orow w v zs) : ∃ a cap, v = .slice a zs.length cap := h.row.shape
theorem Orow.len {v : Value} {zs : List Oz} (h : Orow w v zs) : zs.length ≤ 9223372036854775807 := h.row.len
theorem Orow.nil (w : World) : Orow w (.slice none 0 0) [] := ⟨Row.nil w, by simp⟩
/-- An op at a place of a row. -/
@[reducible] def OAt (b o : Nat) (z : Oz) (w : World) : Prop := w.cell? ⟨b, o, none⟩ = some (.int .u8 z.k) ∧ w.cell? ⟨b, o + 1, none⟩ = some (.int .i64 z.n) ∧ w.cell? ⟨b, o + 2, none⟩ = some (.slice z.ra z.rs.length z.rc) ∧ w.cell? ⟨b, o + 3, none⟩ = some (.slice z.sa z.st.length z.sc) ∧ w.cell? ⟨b, o + 4, none⟩ = some (.slice z.pa z.pt.length z.pc)
theorem OAt.lt {b o : Nat} {z : Oz} (h : OAt b o z w) : b < w.heap.size := World.block_lt_of_cell? w _ h.1
theorem OAt.below {b o : Nat} {z : Oz} (h : OAt b o z w) (hb : Below w.heap.size w w') : OAt b o z w' := by
  have hl := h.lt
  obtain ⟨h0, h1, h2, h3, h4⟩ := h
  exact ⟨(hb.cell (p := ⟨b, _, none⟩) hl).trans h0, (hb.cell (p := ⟨b, _, none⟩) hl).trans h1, (hb.cell (p := ⟨b, _, none⟩) hl).trans h2, (hb.cell (p := ⟨b, _, none⟩) hl).trans h3, (hb.cell (p := ⟨b, _, none⟩) hl).trans h4⟩
theorem OAt.off {b o : Nat} {z : Oz} (h : OAt b o z w) (ho : Off S w w') (hS : ¬ S b) : OAt b o z w' := by
  have hl := h.lt
  obtain ⟨h0, h1, h2, h3, h4⟩ := h
  have e : ∀ o, w'.cell? ⟨b, o, none⟩ = w.cell? ⟨b, o, none⟩ := fun o => by simp only [World.cell?, ho.block b hl hS]
  exact ⟨(e _).trans h0, (e _).trans h1, (e _).trans h2, (e _).trans h3, (e _).trans h4⟩
theorem OAt.new (w : World) (z : Oz) (t : TypeId) : OAt w.heap.size 0 z (w.alloc (.cells z.cs t)) := by
  refine ⟨?_, ?_, ?_, ?_, ?_⟩ <;> (rw [cell_of_row _ w.heap.size _ _ t (0, 0) (heap_alloc_new w _)]; rfl)
theorem Row.ats {zs : List Oz} (h : Row ozC w (.slice a n c) zs) (h0 : 0 < zs.length) :
    ∃ b off, a = some ⟨b, off, none⟩ ∧ n = zs.length ∧ zs.length ≤ c ∧ c ≤ maxLen ∧ b < w.heap.size ∧ ∀ j (hj : j < zs.length), OAt b (off + j * 5) zs[j] w := by
  obtain ⟨b, off, ha, hn, hc, hm, hb, hat, -⟩ := Row.opened h h0
  exact ⟨b, off, ha, hn, hc, hm, hb, fun j hj => ⟨hat j hj 0 _ rfl, hat j hj 1 _ rfl, hat j hj 2 _ rfl, hat j hj 3 _ rfl, hat j hj 4 _ rfl⟩⟩
/-- Its parts, as Go cuts them. -/
theorem Orow.mid {lo hi : Nat} {zs : List Oz} (h : Orow w (.slice a n c) zs) (h1 : lo ≤ hi) (h2 : hi ≤ zs.length) : Orow w (sliced a lo hi c 5) ((zs.take hi).drop lo) :=
  ⟨h.row.mid h1 h2, fun z hz => h.ok z (List.mem_of_mem_take (List.mem_of_mem_drop hz))⟩
theorem Orow.head {hi : Nat} {zs : List Oz} (h : Orow w (.slice a n c) zs) (h2 : hi ≤ zs.length) : Orow w (.slice a hi c) (zs.take hi) := ⟨h.row.head h2, fun z hz => h.ok z (List.mem_of_mem_take hz)⟩
end
theorem orow_one (w : World) (z : Oz) (t : TypeId) (h : OpOk w z) : Orow (w.alloc (.cells z.cs t)) (.slice (some ⟨w.heap.size, 0, none⟩) 1 1) [z] :=
  ⟨Row.built (C := ozC) w t [z] (by simp [maxLen]), fun y hy => by obtain rfl := List.mem_singleton.1 hy; exact h.below ((Below.refl _ _).alloc (Nat.le_refl _) _)⟩
theorem kbelow_one (w : World) (o : Obj) : Below w.heap.size w (w.alloc o) := (Below.refl _ _).alloc (Nat.le_refl _) _

/-! ### rows that came in -/
section
variable {H : Type} {enc : TypeId × Value → H} {w : World} {base : Nat} {spare : Nat → Bool} {held : Bool}
theorem op_fields : Try.prog.underlying 51 = some (.struct (Try.prog.fieldsOf 51)) := by kernel_rfl
theorem op_one : oneCellFields Try.prog (Try.prog.fieldsOf 51) = true := by kernel_rfl
theorem op_cells : Try.prog.cellsOf 51 = 5 := by kernel_rfl
theorem op_types : (Try.prog.fieldsOf 51).map (·.type) = #[5, 3, 36, 39, 49] := by kernel_rfl
theorem op_size : (Try.prog.fieldsOf 51).size = 5 := by kernel_rfl
theorem int_cellsN : Try.prog.cellsOf 21 = 1 := by kernel_rfl
/-- How much an op has. -/
def szO (z : Oz) : Nat := 1 + z.rs.length + totA z.st + totC z.pt
def totO (zs : List Oz) : Nat := (zs.map szO).sum
def iD (x : Int) : DataW H := .lit (.int .i32 x)
theorem bulk_I (xs : List Int) : xs.length ≤ Rows.uptoBulkAll (xs.map (iD (H := H))) := by
  induction xs with
  | nil => simp
  | cons x r ih =>
    rw [List.map_cons, Rows.uptoBulkAll, List.length_cons]
    simp only [iD, Rows.uptoBulk]
    omega
theorem open_intsN {n : Nat} {v : Value} {x : DataW H × List MemPlace} (h : DataW.trod enc Try.prog w base spare held n 36 [v] = some x) : ∃ xs, Ints .i32 w v xs ∧ (∀ i ∈ xs, (Lit.int .i32 i).wf = true) ∧ xs.length ≤ Rows.uptoBulk x.1 := by
  obtain ⟨xs, h1, h2, h3⟩ := open_rows intC (fun i => (Lit.int .i32 i).wf = true) (iD (H := H)) Try.underlying36 int_cellsN (fun {n cs y} hy => by
    obtain ⟨a0, e0, e1, wf⟩ := DataW.trod_int Try.underlying21 hy
    exact ⟨a0, wf, e0, by rw [e1]; rfl⟩) h
  refine ⟨xs, ?_, h2, ?_⟩
  · rcases h1 with h1 | ⟨b, off, cap, hv, h0, h1, h2, h3⟩
    · exact .inl h1
    · refine .inr ⟨b, off, cap, hv, h0, h1, h2, fun j hj => h3 j _ ?_⟩
      rw [fl_intC]
      simp [List.getD, hj]
  · rcases h3 with ⟨e, rfl⟩ | ⟨sp, e⟩
    · simp
    · rw [e, Rows.uptoBulk]
      have := bulk_I (H := H) xs
      omega
set_option maxRecDepth 100000 in
theorem open_op {n : Nat} {cs : List Value} {y : DataW H × List MemPlace} (h : DataW.trod enc Try.prog w base spare held n 51 cs = some y) : ∃ z : Oz, (OpOk w z ∧ OpW z ∧ szO z ≤ Rows.uptoBulk y.1) ∧ cs = ozC.c z := by
  obtain ⟨ys, m, -, hy, hlen, hys, hf⟩ := DataW.trod_struct op_fields h
  rw [op_cells] at hlen
  rw [op_size] at hys
  have hj : ∀ (j : Nat) (t : TypeId), (#[5, 3, 36, 39, 49] : Array TypeId)[j]? = some t → DataW.trod enc Try.prog w base spare held m t ((cs.drop j).take 1) = ys[j]? := by
    intro j t hjt
    rw [← op_types, Array.getElem?_map, Option.map_eq_some_iff] at hjt
    obtain ⟨f, hfj, rfl⟩ := hjt
    obtain ⟨ho, hk⟩ := hone_of op_one j f hfj
    have := hf j f hfj
    rwa [ho, hk] at this
  clear hf h
  match cs, hlen with
  | [c0, c1, c2, c3, c4], _ =>
    match ys, hys with
    | [y0, y1, y2, y3, y4], _ =>
      have h0 : DataW.trod enc Try.prog w base spare held m 5 [c0] = some y0 := hj 0 _ rfl
      have h1 : DataW.trod enc Try.prog w base spare held m 3 [c1] = some y1 := hj 1 _ rfl
      have h2 : DataW.trod enc Try.prog w base spare held m 36 [c2] = some y2 := hj 2 _ rfl
      have h3 : DataW.trod enc Try.prog w base spare held m 39 [c3] = some y3 := hj 3 _ rfl
      have h4 : DataW.trod enc Try.prog w base spare held m 49 [c4] = some y4 := hj 4 _ rfl
      obtain ⟨a0, e0, f0, w0⟩ := DataW.trod_int Try.underlying5 h0
      obtain ⟨a1, e1, f1, w1⟩ := DataW.trod_int Try.underlying3 h1
      obtain ⟨rs, q2, wr, b2⟩ := open_intsN h2
      obtain ⟨st, q3, z3, i3⟩ := open_ats h3
      obtain ⟨pt, q4, z4, i4⟩ := open_chs h4
      simp only [List.cons.injEq, and_true] at e0 e1
      subst e0 e1
      obtain ⟨a, cap, rfl⟩ := q2.shape
      obtain ⟨a', cap', rfl⟩ := q3.shape
      obtain ⟨a'', cap'', rfl⟩ := q4.shape
      have b3 : totA st ≤ Rows.uptoBulk y3.1 := by
        rcases i3 with ⟨e, rfl⟩ | ⟨sp, e⟩
        · simp [totA, sizeA]
        · rw [e, Rows.uptoBulk]; have := bulk_A (H := H) st; omega
      have b4 : totC pt ≤ Rows.uptoBulk y4.1 := by
        rcases i4 with ⟨e, rfl⟩ | ⟨sp, e⟩
        · simp [totC, sizeC]
        · rw [e, Rows.uptoBulk]; have := bulk_C (H := H) pt; omega
      refine ⟨⟨a0, a1, a, cap, rs, a', cap', st, a'', cap'', pt⟩, ⟨⟨q2, q3, q4⟩, ⟨w0, w1, wr, z3, z4⟩, ?_⟩, rfl⟩
      rw [hy]
      simp only [List.map_cons, List.map_nil, Rows.uptoBulk, Rows.uptoBulkAll, szO]
      omega
/-- A slice of ops that came in. -/
theorem open_ops {n : Nat} {v : Value} {x : DataW H × List MemPlace} (h : DataW.trod enc Try.prog w base spare held n 33 [v] = some x) : ∃ zs : List Oz, Orow w v zs ∧ (∀ z ∈ zs, OpW z) ∧ totO zs ≤ Rows.uptoBulk x.1 := by
  obtain ⟨xs, h1, h2, h3⟩ := open_rows (⟨fun q : Oz × DataW H => ozC.c q.1, 5, fun _ => rfl, fun q => ozC.one q.1, by decide⟩ : Cel (Oz × DataW H)) (fun q => OpOk w q.1 ∧ OpW q.1 ∧ szO q.1 ≤ Rows.uptoBulk q.2) Prod.snd Try.underlying33 op_cells (fun {n cs y} hy => by
    obtain ⟨z, hz, hc⟩ := open_op hy
    exact ⟨(z, y.1), hz, hc, rfl⟩) h
  refine ⟨xs.map Prod.fst, ⟨?_, fun z hz => ?_⟩, fun z hz => ?_, ?_⟩
  · have e : ∀ l : List (Oz × DataW H), fl ozC (l.map Prod.fst) = l.flatMap fun q => ozC.c q.1 := fun l => by
      induction l with
      | nil => rfl
      | cons q r ih => rw [List.map_cons, fl_cons, ih]; rfl
    rcases h1 with ⟨a, cap, hv, hx, hm, hc⟩ | ⟨b, off, cap, hv, q0, q1, q2, q3⟩
    · subst hx; exact .inl ⟨a, cap, hv, rfl, hm, hc⟩
    · refine .inr ⟨b, off, cap, by rw [List.length_map]; exact hv, by rw [List.length_map]; exact q0, by rw [List.length_map]; exact q1, q2, fun j u hu => q3 j u ?_⟩
      rw [e] at hu; exact hu
  · obtain ⟨q, hq, rfl⟩ := List.mem_map.1 hz
    exact (h2 q hq).1
  · obtain ⟨q, hq, rfl⟩ := List.mem_map.1 hz
    exact (h2 q hq).2.1
  · have hs : ∀ l : List (Oz × DataW H), (∀ q ∈ l, szO q.1 ≤ Rows.uptoBulk q.2) → totO (l.map Prod.fst) ≤ Rows.uptoBulkAll (l.map Prod.snd) := fun l => by
      induction l with
      | nil => intro _; simp [totO]
      | cons q r ih =>
        intro hq
        have h1 := hq q (by simp)
        have h2 := ih fun y hy => hq y (by simp [hy])
        simp only [totO, List.map_cons, List.sum_cons, Rows.uptoBulkAll] at *
        omega
    have hs2 := hs xs fun q hq => (h2 q hq).2.2
    rcases h3 with ⟨e, rfl⟩ | ⟨sp, e⟩
    · simp [totO]
    · rw [e, Rows.uptoBulk]; omega
theorem small_O {ds : List (DataW H)} (hk : Rows.uptoSmall H ds = true) {d : DataW H} {zs : List Oz} (hd : totO zs ≤ Rows.uptoBulk d) (hm : d ∈ ds) : totO zs ≤ 1048576 := by
  have h : Rows.uptoBulkAll ds ≤ 1048576 := of_decide_eq_true hk
  have h2 := in_bulk hm
  omega
end
end Go.Proofs.Ytmbjjaflgdfihaa
