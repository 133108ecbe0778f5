import Derived.Test.YtohgopibimgjfaaGreatZ2
/- N1: an op; a row of ops that reads so; one that the call owns -/
namespace Go.Proofs.YtohgopibimgjfaaGreat
open Go.RowKit Go.ChangeShapes Go.WideShapes Go.Deep
set_option linter.unusedVariables false

/-- An op as plain data; an op as it is laid, with what its slices read as. -/
structure Opn where
  k : Int
  n : Int
  rs : List Int
  st : List Att
  pt : List Chg
  deriving DecidableEq
structure Oz where
  k : Int
  n : Int
  ra : Option Addr
  rc : Nat
  rs : List Int
  sa : Option Addr
  sc : Nat
  st : List Att
  pa : Option Addr
  pc : Nat
  pt : List Chg
instance : Inhabited Oz := ⟨⟨0, 0, none, 0, [], none, 0, [], none, 0, []⟩⟩
instance : Inhabited Opn := ⟨⟨0, 0, [], [], []⟩⟩
@[reducible] def Oz.rv (z : Oz) : Value := .slice z.ra z.rs.length z.rc
@[reducible] def Oz.sv (z : Oz) : Value := .slice z.sa z.st.length z.sc
@[reducible] def Oz.pv (z : Oz) : Value := .slice z.pa z.pt.length z.pc
def Oz.o (z : Oz) : Opn := ⟨z.k, z.n, z.rs, z.st, z.pt⟩
@[reducible] def opcs (k n : Int) (ra : Option Addr) (rl rc : Nat) (sa : Option Addr) (sl sc : Nat) (pa : Option Addr) (pl pc : Nat) : Array Value := #[.int .u8 k, .int .i64 n, .slice ra rl rc, .slice sa sl sc, .slice pa pl pc]
@[reducible] def Oz.cs (z : Oz) : Array Value := opcs z.k z.n z.ra z.rs.length z.rc z.sa z.st.length z.sc z.pa z.pt.length z.pc
@[reducible] def Oz.v (z : Oz) : Value := .agg z.cs
def ozC : Cel Oz := ⟨fun z => [.int .u8 z.k, .int .i64 z.n, .slice z.ra z.rs.length z.rc, .slice z.sa z.st.length z.sc, .slice z.pa z.pt.length z.pc], 5, fun _ => rfl, fun o u hu => by
  simp only [List.mem_cons, List.not_mem_nil, or_false] at hu
  rcases hu with rfl | rfl | rfl | rfl | rfl <;> rfl, by decide⟩
/-- What is true of its numbers. -/
structure OpW (z : Oz) : Prop where
  k : (Lit.int .u8 z.k).wf = true
  n : (Lit.int .i64 z.n).wf = true
  r : ∀ x ∈ z.rs, (Lit.int .i32 x).wf = true
  s : ∀ a ∈ z.st, AttW a
  p : ∀ c ∈ z.pt, ChgW c
/-- Its slices read so. -/
structure OpOk (w : World) (z : Oz) : Prop where
  r : Ints .i32 w z.rv z.rs
  s : Arow w z.sv z.st
  p : Crow w z.pv z.pt
structure Orow (w : World) (v : Value) (zs : List Oz) : Prop where
  row : Row ozC w v zs
  ok : ∀ z ∈ zs, OpOk w z
/-- An address that lies in no block of S, if there is anything at it. -/
def Na (S : Nat → Prop) (a : Option Addr) (n : Nat) : Prop := 0 < n → ∀ x, a = some x → ¬ S x.block
structure OpNa (S : Nat → Prop) (z : Oz) : Prop where
  r : Na S z.ra z.rs.length
  s : Na S z.sa z.st.length
  p : Na S z.pa z.pt.length

section
variable {w w' : World} {S : Nat → Prop} {k : IntKind} {a : Option Addr} {n c : Nat}
theorem Ints.off {xs : List Int} (h : Ints k w (.slice a n c) xs) (ho : Off S w w') (hn : Na S a n) : Ints k w' (.slice a n c) xs := by
  rcases h with h | ⟨b, off, cap, hv, h0, h1, h2, h3⟩
  · exact .inl h
  · injection hv with e1 e2 e3
    subst e1 e2 e3
    refine .inr ⟨b, off, _, rfl, h0, h1, h2, fun j hj => ?_⟩
    rw [← h3 j hj]
    have hl : b < w.heap.size := World.block_lt_of_cell? w _ (h3 j hj)
    simp only [World.cell?, ho.block b hl (hn h0 _ rfl)]
theorem Row.off {α : Type} {C : Cel α} {xs : List α} (h : Row C w (.slice a n c) xs) (ho : Off S w w') (hn : Na S a n) : Row C w' (.slice a n c) xs := by
  rcases h with h | ⟨b, off, cap, hv, h0, h1, h2, h3⟩
  · exact .inl h
  · injection hv with e1 e2 e3
    subst e1 e2 e3
    refine .inr ⟨b, off, _, rfl, h0, h1, h2, fun j u hu => ?_⟩
    rw [← h3 j u hu]
    have hl : b < w.heap.size := World.block_lt_of_cell? w _ (h3 j u hu)
    simp only [World.cell?, ho.block b hl (hn h0 _ rfl)]
theorem Ints.na {xs : List Int} (h : Ints k w (.slice a n c) xs) (hS : ∀ g, S g → w.heap.size ≤ g) : Na S a n := by
  rcases h with ⟨a', cap, hv, hx, -⟩ | ⟨b, off, cap, hv, h0, h1, h2, h3⟩
  · intro h0; injection hv with e1 e2 e3; omega
  · intro _ x hx hs
    injection hv with e1 e2 e3
    subst e1
    injection hx with hx
    subst hx
    have := World.block_lt_of_cell? w _ (h3 0 h0)
    have := hS _ hs
    simp only at *
    omega
theorem Row.na {α : Type} {C : Cel α} {xs : List α} (h : Row C w (.slice a n c) xs) (hS : ∀ g, S g → w.heap.size ≤ g) : Na S a n := by
  intro h0 x hx hs
  have hl : 0 < xs.length := by
    obtain ⟨a', c', e⟩ := h.shape
    injection e with _ e _
    omega
  obtain ⟨b, off, e, -, -, -, hb, -⟩ := h.opened hl
  rw [hx] at e
  injection e with e
  subst e
  have := hS _ hs
  simp only at *
  omega
theorem Na.mono {S' : Nat → Prop} (h : Na S a n) (hS : ∀ g, S' g → S g) : Na S' a n := fun h0 x hx hs => h h0 x hx (hS _ hs)
theorem OpOk.below {z : Oz} (h : OpOk w z) (hb : Below w.heap.size w w') : OpOk w' z := ⟨h.r.below hb, h.s.below hb (Nat.le_refl _), h.p.below hb (Nat.le_refl _)⟩
theorem OpOk.off {z : Oz} (h : OpOk w z) (ho : Off S w w') (hn : OpNa S z) : OpOk w' z := ⟨h.r.off ho hn.r, Row.off h.s ho hn.s, Row.off h.p ho hn.p⟩
theorem OpOk.na {z : Oz} (h : OpOk w z) (hS : ∀ g, S g → w.heap.size ≤ g) : OpNa S z := ⟨h.r.na hS, Row.na h.s hS, Row.na h.p hS⟩
theorem OpNa.mono {S' : Nat → Prop} {z : Oz} (h : OpNa S z) (hS : ∀ g, S' g → S g) : OpNa S' z := ⟨h.r.mono hS, h.s.mono hS, h.p.mono hS⟩
theorem Orow.below {v : Value} {zs : List Oz} (h : Orow w v zs) (hb : Below w.heap.size w w') : Orow w' v zs := ⟨h.row.below hb (Nat.le_refl _), fun z hz => (h.ok z hz).below hb⟩
theorem Orow.off {zs : List Oz} (h : Orow w (.slice a n c) zs) (ho : Off S w w') (hn : Na S a n) (hz : ∀ z ∈ zs, OpNa S z) : Orow w' (.slice a n c) zs := ⟨h.row.off ho hn, fun z h' => (h.ok z h').off ho (hz z h')⟩
theorem Orow.shape {v : Value} {zs : List Oz} (h : Orow w v zs) : ∃ a cap, v = .slice a zs.length cap := h.row.shape
theorem Orow.len {v : Value} {zs : List Oz} (h : Orow w v zs) : zs.length ≤ 9223372036854775807 := h.row.len
theorem Orow.nil (w : World) : Orow w (.slice none 0 0) [] := ⟨Row.nil w, by simp⟩
/-- An op at a place of a row. -/
@[reducible] def OAt (b o : Nat) (z : Oz) (w : World) : Prop := w.cell? ⟨b, o, none⟩ = some (.int .u8 z.k) ∧ w.cell? ⟨b, o + 1, none⟩ = some (.int .i64 z.n) ∧ w.cell? ⟨b, o + 2, none⟩ = some (.slice z.ra z.rs.length z.rc) ∧ w.cell? ⟨b, o + 3, none⟩ = some (.slice z.sa z.st.length z.sc) ∧ w.cell? ⟨b, o + 4, none⟩ = some (.slice z.pa z.pt.length z.pc)
theorem OAt.lt {b o : Nat} {z : Oz} (h : OAt b o z w) : b < w.heap.size := World.block_lt_of_cell? w _ h.1
theorem OAt.below {b o : Nat} {z : Oz} (h : OAt b o z w) (hb : Below w.heap.size w w') : OAt b o z w' := by
  have hl := h.lt
  obtain ⟨h0, h1, h2, h3, h4⟩ := h
  exact ⟨(hb.cell (p := ⟨b, _, none⟩) hl).trans h0, (hb.cell (p := ⟨b, _, none⟩) hl).trans h1, (hb.cell (p := ⟨b, _, none⟩) hl).trans h2, (hb.cell (p := ⟨b, _, none⟩) hl).trans h3, (hb.cell (p := ⟨b, _, none⟩) hl).trans h4⟩
theorem OAt.off {b o : Nat} {z : Oz} (h : OAt b o z w) (ho : Off S w w') (hS : ¬ S b) : OAt b o z w' := by
  have hl := h.lt
  obtain ⟨h0, h1, h2, h3, h4⟩ := h
  have e : ∀ o, w'.cell? ⟨b, o, none⟩ = w.cell? ⟨b, o, none⟩ := fun o => by simp only [World.cell?, ho.block b hl hS]
  exact ⟨(e _).trans h0, (e _).trans h1, (e _).trans h2, (e _).trans h3, (e _).trans h4⟩
theorem OAt.new (w : World) (z : Oz) (t : TypeId) : OAt w.heap.size 0 z (w.alloc (.cells z.cs t)) := by
  refine ⟨?_, ?_, ?_, ?_, ?_⟩ <;> (rw [cell_of_row _ w.heap.size _ _ t (0, 0) (heap_alloc_new w _)]; rfl)
theorem Row.ats {zs : List Oz} (h : Row ozC w (.slice a n c) zs) (h0 : 0 < zs.length) :
    ∃ b off, a = some ⟨b, off, none⟩ ∧ n = zs.length ∧ zs.length ≤ c ∧ c ≤ maxLen ∧ b < w.heap.size ∧ ∀ j (hj : j < zs.length), OAt b (off + j * 5) zs[j] w := by
  obtain ⟨b, off, ha, hn, hc, hm, hb, hat, -⟩ := Row.opened h h0
  exact ⟨b, off, ha, hn, hc, hm, hb, fun j hj => ⟨hat j hj 0 _ rfl, hat j hj 1 _ rfl, hat j hj 2 _ rfl, hat j hj 3 _ rfl, hat j hj 4 _ rfl⟩⟩
/-- Its parts, as Go cuts them. -/
theorem Orow.mid {lo hi : Nat} {zs : List Oz} (h : Orow w (.slice a n c) zs) (h1 : lo ≤ hi) (h2 : hi ≤ zs.length) : Orow w (sliced a lo hi c 5) ((zs.take hi).drop lo) :=
  ⟨h.row.mid h1 h2, fun z hz => h.ok z (List.mem_of_mem_take (List.mem_of_mem_drop hz))⟩
theorem Orow.head {hi : Nat} {zs : List Oz} (h : Orow w (.slice a n c) zs) (h2 : hi ≤ zs.length) : Orow w (.slice a hi c) (zs.take hi) := ⟨h.row.head h2, fun z hz => h.ok z (List.mem_of_mem_take hz)⟩
end
theorem orow_one (w : World) (z : Oz) (t : TypeId) (h : OpOk w z) : Orow (w.alloc (.cells z.cs t)) (.slice (some ⟨w.heap.size, 0, none⟩) 1 1) [z] :=
  ⟨Row.built (C := ozC) w t [z] (by simp [maxLen]), fun y hy => by obtain rfl := List.mem_singleton.1 hy; exact h.below ((Below.refl _ _).alloc (Nat.le_refl _) _)⟩
theorem kbelow_one (w : World) (o : Obj) : Below w.heap.size w (w.alloc o) := (Below.refl _ _).alloc (Nat.le_refl _) _

/-! ### rows that came in -/
section
variable {H : Type} {enc : TypeId × Value → H} {w : World} {base : Nat} {spare : Nat → Bool} {held : Bool}
theorem op_fields : Tryz.prog.underlying 56 = some (.struct (Tryz.prog.fieldsOf 56)) := by kernel_rfl
theorem op_one : oneCellFields Tryz.prog (Tryz.prog.fieldsOf 56) = true := by kernel_rfl
theorem op_cells : Tryz.prog.cellsOf 56 = 5 := by kernel_rfl
theorem op_types : (Tryz.prog.fieldsOf 56).map (·.type) = #[5, 3, 52, 53, 54] := by kernel_rfl
theorem op_size : (Tryz.prog.fieldsOf 56).size = 5 := by kernel_rfl
theorem int_cellsN : Tryz.prog.cellsOf 21 = 1 := by kernel_rfl
/-- How much an op has. -/
def szO (z : Oz) : Nat := 1 + z.rs.length + totA z.st + totC z.pt
def totO (zs : List Oz) : Nat := (zs.map szO).sum
def iD (x : Int) : DataW H := .lit (.int .i32 x)
theorem bulk_I (xs : List Int) : xs.length ≤ Rows.uptoBulkAll (xs.map (iD (H := H))) := by
  induction xs with
  | nil => simp
  | cons x r ih =>
    rw [List.map_cons, Rows.uptoBulkAll, List.length_cons]
    simp only [iD, Rows.uptoBulk]
    omega
theorem open_intsN {n : Nat} {v : Value} {x : DataW H × List MemPlace} (h : DataW.trod enc Tryz.prog w base spare held n 52 [v] = some x) : ∃ xs, Ints .i32 w v xs ∧ (∀ i ∈ xs, (Lit.int .i32 i).wf = true) ∧ xs.length ≤ Rows.uptoBulk x.1 := by
  obtain ⟨xs, h1, h2, h3⟩ := open_rows intC (fun i => (Lit.int .i32 i).wf = true) (iD (H := H)) Tryz.underlying52 int_cellsN (fun {n cs y} hy => by
    obtain ⟨a0, e0, e1, wf⟩ := DataW.trod_int Tryz.underlying21 hy
    exact ⟨a0, wf, e0, by rw [e1]; rfl⟩) h
  refine ⟨xs, ?_, h2, ?_⟩
  · rcases h1 with h1 | ⟨b, off, cap, hv, h0, h1, h2, h3⟩
    · exact .inl h1
    · refine .inr ⟨b, off, cap, hv, h0, h1, h2, fun j hj => h3 j _ ?_⟩
      rw [fl_intC]
      simp [List.getD, hj]
  · rcases h3 with ⟨e, rfl⟩ | ⟨sp, e⟩
    · simp
    · rw [e, Rows.uptoBulk]
      have := bulk_I (H := H) xs
      omega
set_option maxRecDepth 100000 in
theorem open_op {n : Nat} {cs : List Value} {y : DataW H × List MemPlace} (h : DataW.trod enc Tryz.prog w base spare held n 56 cs = some y) : ∃ z : Oz, (OpOk w z ∧ OpW z ∧ szO z ≤ Rows.uptoBulk y.1) ∧ cs = ozC.c z := by
  obtain ⟨ys, m, -, hy, hlen, hys, hf⟩ := DataW.trod_struct op_fields h
  rw [op_cells] at hlen
  rw [op_size] at hys
  have hj : ∀ (j : Nat) (t : TypeId), (#[5, 3, 52, 53, 54] : Array TypeId)[j]? = some t → DataW.trod enc Tryz.prog w base spare held m t ((cs.drop j).take 1) = ys[j]? := by
    intro j t hjt
    rw [← op_types, Array.getElem?_map, Option.map_eq_some_iff] at hjt
    obtain ⟨f, hfj, rfl⟩ := hjt
    obtain ⟨ho, hk⟩ := hone_of op_one j f hfj
    have := hf j f hfj
    rwa [ho, hk] at this
  clear hf h
  match cs, hlen with
  | [c0, c1, c2, c3, c4], _ =>
    match ys, hys with
    | [y0, y1, y2, y3, y4], _ =>
      have h0 : DataW.trod enc Tryz.prog w base spare held m 5 [c0] = some y0 := hj 0 _ rfl
      have h1 : DataW.trod enc Tryz.prog w base spare held m 3 [c1] = some y1 := hj 1 _ rfl
      have h2 : DataW.trod enc Tryz.prog w base spare held m 52 [c2] = some y2 := hj 2 _ rfl
      have h3 : DataW.trod enc Tryz.prog w base spare held m 53 [c3] = some y3 := hj 3 _ rfl
      have h4 : DataW.trod enc Tryz.prog w base spare held m 54 [c4] = some y4 := hj 4 _ rfl
      obtain ⟨a0, e0, f0, w0⟩ := DataW.trod_int Tryz.underlying5 h0
      obtain ⟨a1, e1, f1, w1⟩ := DataW.trod_int Tryz.underlying3 h1
      obtain ⟨rs, q2, wr, b2⟩ := open_intsN h2
      obtain ⟨st, q3, z3, i3⟩ := open_ats h3
      obtain ⟨pt, q4, z4, i4⟩ := open_chs h4
      simp only [List.cons.injEq, and_true] at e0 e1
      subst e0 e1
      obtain ⟨a, cap, rfl⟩ := q2.shape
      obtain ⟨a', cap', rfl⟩ := q3.shape
      obtain ⟨a'', cap'', rfl⟩ := q4.shape
      have b3 : totA st ≤ Rows.uptoBulk y3.1 := by
        rcases i3 with ⟨e, rfl⟩ | ⟨sp, e⟩
        · simp [totA, sizeA]
        · rw [e, Rows.uptoBulk]; have := bulk_A (H := H) st; omega
      have b4 : totC pt ≤ Rows.uptoBulk y4.1 := by
        rcases i4 with ⟨e, rfl⟩ | ⟨sp, e⟩
        · simp [totC, sizeC]
        · rw [e, Rows.uptoBulk]; have := bulk_C (H := H) pt; omega
      refine ⟨⟨a0, a1, a, cap, rs, a', cap', st, a'', cap'', pt⟩, ⟨⟨q2, q3, q4⟩, ⟨w0, w1, wr, z3, z4⟩, ?_⟩, rfl⟩
      rw [hy]
      simp only [List.map_cons, List.map_nil, Rows.uptoBulk, Rows.uptoBulkAll, szO]
      omega
/-- A slice of ops that came in. -/
theorem open_ops {n : Nat} {v : Value} {x : DataW H × List MemPlace} (h : DataW.trod enc Tryz.prog w base spare held n 23 [v] = some x) : ∃ zs : List Oz, Orow w v zs ∧ (∀ z ∈ zs, OpW z) ∧ totO zs ≤ Rows.uptoBulk x.1 := by
  obtain ⟨xs, h1, h2, h3⟩ := open_rows (⟨fun q : Oz × DataW H => ozC.c q.1, 5, fun _ => rfl, fun q => ozC.one q.1, by decide⟩ : Cel (Oz × DataW H)) (fun q => OpOk w q.1 ∧ OpW q.1 ∧ szO q.1 ≤ Rows.uptoBulk q.2) Prod.snd Tryz.underlying23 op_cells (fun {n cs y} hy => by
    obtain ⟨z, hz, hc⟩ := open_op hy
    exact ⟨(z, y.1), hz, hc, rfl⟩) h
  refine ⟨xs.map Prod.fst, ⟨?_, fun z hz => ?_⟩, fun z hz => ?_, ?_⟩
  · have e : ∀ l : List (Oz × DataW H), fl ozC (l.map Prod.fst) = l.flatMap fun q => ozC.c q.1 := fun l => by
      induction l with
      | nil => rfl
      | cons q r ih => rw [List.map_cons, fl_cons, ih]; rfl
    rcases h1 with ⟨a, cap, hv, hx, hm, hc⟩ | ⟨b, off, cap, hv, q0, q1, q2, q3⟩
    · subst hx; exact .inl ⟨a, cap, hv, rfl, hm, hc⟩
    · refine .inr ⟨b, off, cap, by rw [List.length_map]; exact hv, by rw [List.length_map]; exact q0, by rw [List.length_map]; exact q1, q2, fun j u hu => q3 j u ?_⟩
      rw [e] at hu; exact hu
  · obtain ⟨q, hq, rfl⟩ := List.mem_map.1 hz
    exact (h2 q hq).1
  · obtain ⟨q, hq, rfl⟩ := List.mem_map.1 hz
    exact (h2 q hq).2.1
  · have hs : ∀ l : List (Oz × DataW H), (∀ q ∈ l, szO q.1 ≤ Rows.uptoBulk q.2) → totO (l.map Prod.fst) ≤ Rows.uptoBulkAll (l.map Prod.snd) := fun l => by
      induction l with
      | nil => intro _; simp [totO]
      | cons q r ih =>
        intro hq
        have h1 := hq q (by simp)
        have h2 := ih fun y hy => hq y (by simp [hy])
        simp only [totO, List.map_cons, List.sum_cons, Rows.uptoBulkAll] at *
        omega
    have hs2 := hs xs fun q hq => (h2 q hq).2.2
    rcases h3 with ⟨e, rfl⟩ | ⟨sp, e⟩
    · simp [totO]
    · rw [e, Rows.uptoBulk]; omega
theorem small_O {ds : List (DataW H)} (hk : Rows.uptoSmall H ds = true) {d : DataW H} {zs : List Oz} (hd : totO zs ≤ Rows.uptoBulk d) (hm : d ∈ ds) : totO zs ≤ 1048576 := by
  have h : Rows.uptoBulkAll ds ≤ 1048576 := of_decide_eq_true hk
  have h2 := in_bulk hm
  omega
end
end Go.Proofs.YtohgopibimgjfaaGreat

/- N2: normal forms as plain data (rows the other way round: the last op first) -/
namespace Go.Proofs.YtohgopibimgjfaaGreat
open Go.RowKit
set_option linter.unusedVariables false

def lenN (p : Opn) : Int := if p.k = 2 then (p.rs.length : Int) else if p.k = 1 ∨ p.k = 3 then p.n else 0
@[reducible] def Alike (o p : Opn) : Prop := o.k = p.k ∧ o.st = p.st ∧ o.pt = p.pt
def long (o p : Opn) : Opn := if o.k = 2 then { o with rs := o.rs ++ p.rs } else { o with n := o.n + min p.n (9223372036854775807 - o.n) }
def rpush (p : Opn) : List Opn → List Opn
  | [] => [p]
  | l :: r => if Alike l p then long l p :: r else p :: l :: r
def rtell (p : Opn) (R : List Opn) : List Opn := if lenN p < 1 then R else match R with
  | [] => [p]
  | d :: r => if p.k = 2 ∧ d.k = 3 then d :: rpush p r else rpush p (d :: r)
def tellR (xs : List Opn) : List Opn := xs.foldl (fun R p => rtell p R) []
@[reducible] def Idle (o : Opn) : Prop := o.k = 1 ∧ o.pt = []
def settleR : List Opn → List Opn
  | [] => []
  | o :: r => if Idle o then r else o :: r
/-- The normal form. -/
def formO (xs : List Opn) : List Opn := (settleR (tellR xs)).reverse
@[reducible] def Bad (o p : Opn) : Prop := Alike o p ∨ (o.k = 3 ∧ p.k = 2)
def NR : List Opn → Prop
  | p :: o :: r => ¬ Bad o p ∧ NR (o :: r)
  | _ => True
/-- An op that may be. -/
structure Tm (p : Opn) : Prop where
  ret : p.k = 1 → p.st = [] ∧ p.rs = [] ∧ 1 ≤ p.n
  ins : p.k = 2 → p.n = 0 ∧ p.pt = [] ∧ p.rs ≠ []
  del : p.k = 3 → p.st = [] ∧ p.pt = [] ∧ p.rs = [] ∧ 1 ≤ p.n
  kind : p.k = 1 ∨ p.k = 2 ∨ p.k = 3
  hi : p.n ≤ 9223372036854775807
theorem tellR_snoc (xs : List Opn) (p : Opn) : tellR (xs ++ [p]) = rtell p (tellR xs) := by simp [tellR]
theorem tellR_nil : tellR [] = [] := rfl
theorem rpush_nil (p : Opn) : rpush p [] = [p] := rfl
theorem rpush_yes {p l : Opn} (r : List Opn) (h : Alike l p) : rpush p (l :: r) = long l p :: r := if_pos h
theorem rpush_no {p l : Opn} (r : List Opn) (h : ¬ Alike l p) : rpush p (l :: r) = p :: l :: r := if_neg h
theorem long_k (o p : Opn) : (long o p).k = o.k ∧ (long o p).st = o.st ∧ (long o p).pt = o.pt := by unfold long; split <;> exact ⟨rfl, rfl, rfl⟩
theorem Tm.len {p : Opn} (h : Tm p) : 1 ≤ lenN p := by
  unfold lenN
  rcases h.kind with e | e | e
  · rw [if_neg (by omega), if_pos (.inl e)]; exact (h.ret e).2.2
  · rw [if_pos e]
    have := List.length_pos_iff.2 (h.ins e).2.2
    omega
  · rw [if_neg (by omega), if_pos (.inr e)]; exact (h.del e).2.2.2
theorem Tm.nn {p : Opn} (h : Tm p) : 0 ≤ p.n := by
  rcases h.kind with e | e | e
  · have := (h.ret e).2.2; omega
  · have := (h.ins e).1; omega
  · have := (h.del e).2.2.2; omega
theorem rtell_zero {p : Opn} (h : lenN p < 1) (R : List Opn) : rtell p R = R := if_pos h
theorem rtell_nil {p : Opn} (h : 1 ≤ lenN p) : rtell p [] = [p] := if_neg (by omega)
theorem rtell_del {p d : Opn} (r : List Opn) (h : 1 ≤ lenN p) (h2 : p.k = 2) (h3 : d.k = 3) : rtell p (d :: r) = d :: rpush p r := by
  unfold rtell
  rw [if_neg (by omega)]
  exact if_pos ⟨h2, h3⟩
theorem rtell_else {p d : Opn} (r : List Opn) (h : 1 ≤ lenN p) (h2 : ¬ (p.k = 2 ∧ d.k = 3)) : rtell p (d :: r) = rpush p (d :: r) := by
  unfold rtell
  rw [if_neg (by omega)]
  exact if_neg h2
theorem bad_long_l {l p d : Opn} : Bad (long l p) d ↔ Bad l d := by
  obtain ⟨e1, e2, e3⟩ := long_k l p
  unfold Bad Alike
  rw [e1, e2, e3]
theorem bad_long_r {l p d : Opn} : Bad d (long l p) ↔ Bad d l := by
  obtain ⟨e1, e2, e3⟩ := long_k l p
  unfold Bad Alike
  rw [e1, e2, e3]
theorem NR.tail {o : Opn} {r : List Opn} (h : NR (o :: r)) : NR r := by
  cases r with
  | nil => trivial
  | cons d r => exact h.2
theorem nr_long {l p : Opn} {r : List Opn} (h : NR (l :: r)) : NR (long l p :: r) := by
  cases r with
  | nil => trivial
  | cons d r => exact ⟨fun hb => h.1 (bad_long_r.1 hb), h.2⟩
theorem nr_rpush {p : Opn} {r : List Opn} (h : NR r) (hd : ∀ d r', r = d :: r' → ¬ (d.k = 3 ∧ p.k = 2)) : NR (rpush p r) := by
  cases r with
  | nil => trivial
  | cons l r =>
    by_cases ha : Alike l p
    · rw [rpush_yes r ha]; exact nr_long h
    · rw [rpush_no r ha]; exact ⟨fun hb => hb.elim ha (hd l r rfl), h⟩
theorem two_del {l d : Opn} (hl : Tm l) (hd : Tm d) (h1 : l.k = 3) (h2 : d.k = 3) : Alike l d := by
  obtain ⟨a, b, -⟩ := hl.del h1
  obtain ⟨a', b', -⟩ := hd.del h2
  exact ⟨by omega, by rw [a, a'], by rw [b, b']⟩
theorem nr_rtell {p : Opn} {R : List Opn} (h : NR R) (hp : Tm p) (hR : ∀ o ∈ R, Tm o) : NR (rtell p R) := by
  cases R with
  | nil => rw [rtell_nil hp.len]; trivial
  | cons d r =>
    by_cases hc : p.k = 2 ∧ d.k = 3
    · rw [rtell_del r hp.len hc.1 hc.2]
      obtain ⟨p2, d3⟩ := hc
      have hn : ¬ Bad p d := fun hb => by
        rcases hb with ⟨e, -⟩ | ⟨e, -⟩ <;> omega
      cases r with
      | nil => exact ⟨hn, trivial⟩
      | cons l r =>
        have hl3 : l.k ≠ 3 := fun e => h.1 (.inl (two_del (hR l (by simp)) (hR d (by simp)) e d3))
        have hnr := nr_rpush (p := p) h.2 (fun d' r' e => by injection e with e _; subst e; omega)
        by_cases ha : Alike l p
        · rw [rpush_yes r ha] at hnr ⊢; exact ⟨fun hb => h.1 (bad_long_l.1 hb), hnr⟩
        · rw [rpush_no r ha] at hnr ⊢; exact ⟨hn, hnr⟩
    · rw [rtell_else r hp.len hc]
      exact nr_rpush h (fun d' r' e => by injection e with e _; subst e; omega)
theorem tm_long {l p : Opn} (hl : Tm l) (hp : Tm p) (ha : Alike l p) : Tm (long l p) := by
  obtain ⟨e1, e2, e3⟩ := long_k l p
  have hn : l.k ≠ 2 → (long l p).rs = l.rs ∧ (long l p).n = l.n + min p.n (9223372036854775807 - l.n) := fun h => by unfold long; rw [if_neg h]; exact ⟨rfl, rfl⟩
  have hn2 : l.k = 2 → (long l p).rs = l.rs ++ p.rs ∧ (long l p).n = l.n := fun h => by unfold long; rw [if_pos h]; exact ⟨rfl, rfl⟩
  have hh := hl.hi
  refine ⟨fun h => ?_, fun h => ?_, fun h => ?_, by rw [e1]; exact hl.kind, ?_⟩
  · rw [e1] at h
    obtain ⟨a, b, c⟩ := hl.ret h
    obtain ⟨a', b', c'⟩ := hp.ret (by rw [← ha.1]; exact h)
    obtain ⟨r1, r2⟩ := hn (by omega)
    exact ⟨by rw [e2]; exact a, by rw [r1]; exact b, by rw [r2]; omega⟩
  · rw [e1] at h
    obtain ⟨a, b, c⟩ := hl.ins h
    obtain ⟨r1, r2⟩ := hn2 h
    exact ⟨by rw [r2]; exact a, by rw [e3]; exact b, by rw [r1]; exact fun hh => c (List.append_eq_nil_iff.1 hh).1⟩
  · rw [e1] at h
    obtain ⟨a, b, c, d⟩ := hl.del h
    obtain ⟨-, -, -, d'⟩ := hp.del (by rw [← ha.1]; exact h)
    obtain ⟨r1, r2⟩ := hn (by omega)
    exact ⟨by rw [e2]; exact a, by rw [e3]; exact b, by rw [r1]; exact c, by rw [r2]; omega⟩
  · by_cases h2 : l.k = 2
    · rw [(hn2 h2).2]; exact hh
    · rw [(hn h2).2]; omega
theorem tm_rpush {p : Opn} {r : List Opn} (hp : Tm p) (hr : ∀ o ∈ r, Tm o) : ∀ o ∈ rpush p r, Tm o := by
  cases r with
  | nil => intro o ho; obtain rfl := List.mem_singleton.1 ho; exact hp
  | cons l r =>
    by_cases ha : Alike l p
    · rw [rpush_yes r ha]
      intro o ho
      rcases List.mem_cons.1 ho with rfl | ho
      · exact tm_long (hr l (by simp)) hp ha
      · exact hr o (by simp [ho])
    · rw [rpush_no r ha]
      intro o ho
      rcases List.mem_cons.1 ho with rfl | ho
      · exact hp
      · exact hr o ho
theorem tm_rtell {p : Opn} {R : List Opn} (hp : Tm p) (hR : ∀ o ∈ R, Tm o) : ∀ o ∈ rtell p R, Tm o := by
  cases R with
  | nil => rw [rtell_nil hp.len]; intro o ho; obtain rfl := List.mem_singleton.1 ho; exact hp
  | cons d r =>
    by_cases hc : p.k = 2 ∧ d.k = 3
    · rw [rtell_del r hp.len hc.1 hc.2]
      intro o ho
      rcases List.mem_cons.1 ho with rfl | ho
      · exact hR o (by simp)
      · exact tm_rpush hp (fun o h => hR o (by simp [h])) o ho
    · rw [rtell_else r hp.len hc]; exact tm_rpush hp hR
/-- Whatever holds at first, and behind each op told, holds of all told. -/
theorem tell_ind {P : List Opn → Prop} (h0 : P []) (xs : List Opn) (hx : ∀ p ∈ xs, ∀ R, P R → P (rtell p R)) : P (tellR xs) := by
  unfold tellR
  have : ∀ (l : List Opn) (R : List Opn), (∀ p ∈ l, ∀ R, P R → P (rtell p R)) → P R → P (l.foldl (fun R p => rtell p R) R) := fun l => by
    induction l with
    | nil => intro R _ h; exact h
    | cons x r ih => intro R hl h; exact ih _ (fun p hp => hl p (by simp [hp])) (hl x (by simp) R h)
  exact this xs [] hx h0
theorem tell_tm {xs : List Opn} (h : ∀ p ∈ xs, Tm p) : ∀ o ∈ tellR xs, Tm o := tell_ind (P := fun R => ∀ o ∈ R, Tm o) (by simp) xs fun p hp R hR => tm_rtell (h p hp) hR
theorem tell_nr {xs : List Opn} (h : ∀ p ∈ xs, Tm p) : NR (tellR xs) :=
  (tell_ind (P := fun R => NR R ∧ ∀ o ∈ R, Tm o) ⟨trivial, by simp⟩ xs fun p hp R hR => ⟨nr_rtell hR.1 (h p hp) hR.2, tm_rtell (h p hp) hR.2⟩).1
/-- Not idle at the end. -/
def Ends : List Opn → Prop
  | [] => True
  | o :: _ => ¬ Idle o
theorem settleR_yes {o : Opn} (r : List Opn) (h : Idle o) : settleR (o :: r) = r := if_pos h
theorem settleR_no {o : Opn} (r : List Opn) (h : ¬ Idle o) : settleR (o :: r) = o :: r := if_neg h
theorem settle_nr {R : List Opn} (h : NR R) : NR (settleR R) := by
  cases R with
  | nil => trivial
  | cons o r =>
    by_cases hi : Idle o
    · rw [settleR_yes r hi]; exact h.tail
    · rw [settleR_no r hi]; exact h
theorem settle_ends {R : List Opn} (h : NR R) (ht : ∀ o ∈ R, Tm o) : Ends (settleR R) := by
  cases R with
  | nil => trivial
  | cons o r =>
    by_cases hi : Idle o
    · rw [settleR_yes r hi]
      cases r with
      | nil => trivial
      | cons d r =>
        intro hd
        obtain ⟨a, b⟩ := hi
        obtain ⟨a', b'⟩ := hd
        exact h.1 (.inl ⟨by omega, by rw [((ht d (by simp)).ret a').1, ((ht o (by simp)).ret a).1], by rw [b, b']⟩)
    · rw [settleR_no r hi]; exact hi
theorem settle_id {R : List Opn} (h : Ends R) : settleR R = R := by
  cases R with
  | nil => rfl
  | cons o r => exact if_neg h
theorem settle_sub (R : List Opn) : ∀ o ∈ settleR R, o ∈ R := by
  cases R with
  | nil => intro o ho; exact ho
  | cons d r =>
    by_cases hi : Idle d
    · rw [settleR_yes r hi]; intro o ho; exact List.mem_cons_of_mem _ ho
    · rw [settleR_no r hi]; intro o ho; exact ho
/-- Of what is normal. -/
theorem tell_id : ∀ (R : List Opn), NR R → (∀ o ∈ R, Tm o) → tellR R.reverse = R
  | [], _, _ => rfl
  | p :: r, h, ht => by
    rw [List.reverse_cons, tellR_snoc, tell_id r h.tail (fun o ho => ht o (by simp [ho]))]
    have hp := (ht p (by simp)).len
    cases r with
    | nil => exact rtell_nil hp
    | cons o r =>
      rw [rtell_else r hp (fun hc => h.1 (.inr ⟨hc.2, hc.1⟩)), rpush_no r (fun ha => h.1 (.inl ha))]
/-- A row of ops is normal. -/
def normal (xs : List Opn) : Prop := NR xs.reverse ∧ Ends xs.reverse
theorem form_normal {xs : List Opn} (h : ∀ p ∈ xs, Tm p) : normal (formO xs) := by
  unfold normal formO
  rw [List.reverse_reverse]
  exact ⟨settle_nr (tell_nr h), settle_ends (tell_nr h) (tell_tm h)⟩
theorem form_tm {xs : List Opn} (h : ∀ p ∈ xs, Tm p) : ∀ o ∈ formO xs, Tm o := fun o ho => tell_tm h o (settle_sub _ o (by simpa [formO] using ho))
theorem form_id {xs : List Opn} (h : normal xs) (ht : ∀ p ∈ xs, Tm p) : formO xs = xs := by
  have := tell_id xs.reverse h.1 (fun o ho => ht o (by simpa using ho))
  rw [List.reverse_reverse] at this
  rw [formO, this, settle_id h.2, List.reverse_reverse]
theorem normal_iff {xs : List Opn} (ht : ∀ p ∈ xs, Tm p) : normal xs ↔ formO xs = xs := ⟨fun h => form_id h ht, fun h => by rw [← h]; exact form_normal ht⟩
theorem form_twice {xs : List Opn} (h : ∀ p ∈ xs, Tm p) : formO (formO xs) = formO xs := form_id (form_normal h) (form_tm h)
end Go.Proofs.YtohgopibimgjfaaGreat

/- N3: the form gap by gap; what is kept of all that is told; another order of telling -/
namespace Go.Proofs.YtohgopibimgjfaaGreat
open Go.RowKit
set_option linter.unusedVariables false

theorem snoc_ind {α : Type} {P : List α → Prop} (nil : P []) (append_singleton : ∀ xs x, P xs → P (xs ++ [x])) (xs : List α) : P xs := by
  have : ∀ l : List α, P l.reverse := fun l => by
    induction l with
    | nil => exact nil
    | cons x r ih => rw [List.reverse_cons]; exact append_singleton _ _ ih
  have h := this xs.reverse
  rwa [List.reverse_reverse] at h
def delO (n : Int) : Opn := ⟨3, n, [], [], []⟩
def joinG (o : Opn) : List Opn → List Opn
  | [] => [o]
  | l :: r => if l.st = o.st then { l with rs := l.rs ++ o.rs } :: r else o :: l :: r
theorem joinG_yes {o l : Opn} (r : List Opn) (h : l.st = o.st) : joinG o (l :: r) = { l with rs := l.rs ++ o.rs } :: r := if_pos h
theorem joinG_no {o l : Opn} (r : List Opn) (h : ¬ l.st = o.st) : joinG o (l :: r) = o :: l :: r := if_neg h
def goneO (g : List Opn) : Int := (g.map fun o => if o.k = 3 then o.n else 0).sum
def insO (g : List Opn) : List Opn := g.filter fun o => decide (o.k ≠ 3)
def joinAll (g : List Opn) : List Opn := g.foldl (fun G o => joinG o G) []
/-- A gap's form, the last op first. -/
def gapR (g : List Opn) : List Opn := if 0 < goneO g then delO (goneO g) :: joinAll (insO g) else joinAll (insO g)
def rmerge (x : Opn) : List Opn → List Opn
  | [] => [x]
  | l :: r => if l.k = 1 ∧ l.pt = x.pt then { l with n := l.n + x.n } :: r else x :: l :: r
theorem rmerge_yes {x l : Opn} (r : List Opn) (h : l.k = 1 ∧ l.pt = x.pt) : rmerge x (l :: r) = { l with n := l.n + x.n } :: r := if_pos h
theorem rmerge_no {x l : Opn} (r : List Opn) (h : ¬ (l.k = 1 ∧ l.pt = x.pt)) : rmerge x (l :: r) = x :: l :: r := if_neg h
def refStep (s : List Opn × List Opn) (x : Opn) : List Opn × List Opn := if x.k = 1 then (rmerge x (gapR s.2 ++ s.1), []) else (s.1, s.2 ++ [x])
def refS (xs : List Opn) : List Opn × List Opn := xs.foldl refStep ([], [])
def refR (xs : List Opn) : List Opn := gapR (refS xs).2 ++ (refS xs).1
theorem refS_snoc (xs : List Opn) (x : Opn) : refS (xs ++ [x]) = refStep (refS xs) x := by simp [refS]
theorem goneO_app (a b : List Opn) : goneO (a ++ b) = goneO a + goneO b := by simp [goneO]
theorem goneO_one (x : Opn) : goneO [x] = if x.k = 3 then x.n else 0 := by simp [goneO]
theorem insO_app (a b : List Opn) : insO (a ++ b) = insO a ++ insO b := by simp [insO]
theorem insO_yes {x : Opn} (h : x.k ≠ 3) : insO [x] = [x] := by simp [insO, h]
theorem insO_no {x : Opn} (h : x.k = 3) : insO [x] = [] := by simp [insO, h]
theorem joinAll_snoc (g : List Opn) (x : Opn) : joinAll (g ++ [x]) = joinG x (joinAll g) := by simp [joinAll]
def sumN (xs : List Opn) : Int := (xs.map (·.n)).sum
def sumR (xs : List Opn) : Nat := (xs.map (·.rs.length)).sum
theorem sumN_app (a b : List Opn) : sumN (a ++ b) = sumN a + sumN b := by simp [sumN]
theorem sumN_cons (x : Opn) (b : List Opn) : sumN (x :: b) = x.n + sumN b := by simp [sumN]
theorem sumR_app (a b : List Opn) : sumR (a ++ b) = sumR a + sumR b := by simp [sumR]
theorem sumR_cons (x : Opn) (b : List Opn) : sumR (x :: b) = x.rs.length + sumR b := by simp [sumR]
theorem sumN_nn : ∀ {xs : List Opn}, (∀ o ∈ xs, Tm o) → 0 ≤ sumN xs
  | [], _ => by simp [sumN]
  | x :: r, h => by
    rw [sumN_cons]
    have := (h x (by simp)).nn
    have := sumN_nn (xs := r) fun o ho => h o (by simp [ho])
    omega
/-- The head of what stands ahead of a gap is a retain. -/
def Hd1 (out : List Opn) : Prop := ∀ l r, out = l :: r → l.k = 1
theorem joinAll_ind {P : Opn → Prop} (hj : ∀ l o : Opn, P l → P o → P { l with rs := l.rs ++ o.rs }) (g : List Opn) (h : ∀ o ∈ g, P o) : ∀ o ∈ joinAll g, P o := by
  have : ∀ (l G : List Opn), (∀ o ∈ l, P o) → (∀ o ∈ G, P o) → ∀ o ∈ l.foldl (fun G o => joinG o G) G, P o := fun l => by
    induction l with
    | nil => intro G _ h; exact h
    | cons x r ih =>
      intro G hl hG
      refine ih _ (fun o ho => hl o (by simp [ho])) ?_
      cases G with
      | nil => intro o ho; obtain rfl := List.mem_singleton.1 ho; exact hl _ (by simp)
      | cons l q =>
        by_cases hs : l.st = x.st
        · show ∀ o ∈ joinG x (l :: q), P o
          rw [joinG_yes q hs]
          intro o ho
          rcases List.mem_cons.1 ho with rfl | ho
          · exact hj _ _ (hG l (by simp)) (hl x (by simp))
          · exact hG o (by simp [ho])
        · show ∀ o ∈ joinG x (l :: q), P o
          rw [joinG_no q hs]
          intro o ho
          rcases List.mem_cons.1 ho with rfl | ho
          · exact hl _ (by simp)
          · exact hG o ho
  exact this g [] h (by simp)
/-- The ops of a gap. -/
def Gp (g : List Opn) : Prop := ∀ o ∈ g, Tm o ∧ o.k ≠ 1
theorem join_shape {g : List Opn} (h : Gp g) : ∀ o ∈ joinAll (insO g), o.k = 2 ∧ o.pt = [] :=
  joinAll_ind (P := fun o => o.k = 2 ∧ o.pt = []) (fun l o h _ => h) _ fun o ho => by
    obtain ⟨h1, h2⟩ := List.mem_filter.1 ho
    obtain ⟨ht, hk⟩ := h o h1
    have h3 : o.k ≠ 3 := by simpa using h2
    have h4 : o.k = 2 := by rcases ht.kind with e | e | e <;> omega
    exact ⟨h4, (ht.ins h4).2.1⟩
theorem join_push {o : Opn} {G out : List Opn} (ho : o.k = 2 ∧ o.pt = []) (hG : ∀ o ∈ G, o.k = 2 ∧ o.pt = []) (h1 : Hd1 out) : rpush o (G ++ out) = joinG o G ++ out := by
  cases G with
  | nil =>
    cases out with
    | nil => rfl
    | cons l r => exact rpush_no r (fun ha => by have := h1 l r rfl; have := ha.1; omega)
  | cons l r =>
    obtain ⟨a, b⟩ := hG l (by simp)
    by_cases hs : l.st = o.st
    · rw [joinG_yes r hs, List.cons_append, rpush_yes _ ⟨by omega, hs, by rw [b, ho.2]⟩, long, if_pos a, List.cons_append]
    · rw [joinG_no r hs, List.cons_append, rpush_no _ (fun ha => hs ha.2.1)]; rfl
theorem tm_delO {x : Opn} (h : Tm x) (h3 : x.k = 3) : x = delO x.n := by
  obtain ⟨a, b, c, d⟩ := h.del h3
  cases x
  simp only at *
  subst h3 a b c
  rfl
theorem gone_nn : ∀ {g : List Opn}, (∀ o ∈ g, Tm o) → 0 ≤ goneO g
  | [], _ => by simp [goneO]
  | x :: r, h => by
    have e : goneO (x :: r) = (if x.k = 3 then x.n else 0) + goneO r := by simp [goneO]
    have h1 := (h x (by simp)).nn
    have h2 := gone_nn (g := r) fun o ho => h o (by simp [ho])
    rw [e]
    split <;> omega
theorem gap_step {g out : List Opn} {x : Opn} (hg : Gp g) (h1 : Hd1 out) (hx : Tm x) (hk : x.k ≠ 1) (hb : goneO g + x.n ≤ 9223372036854775807) : rtell x (gapR g ++ out) = gapR (g ++ [x]) ++ out := by
  have hJ := join_shape hg
  have h0 := gone_nn fun o ho => (hg o ho).1
  have hhd : ∀ l r, joinAll (insO g) ++ out = l :: r → l.k ≠ 3 := fun l r e => by
    cases hJJ : joinAll (insO g) with
    | nil => rw [hJJ] at e; have := h1 l r e; omega
    | cons d q =>
      rw [hJJ] at e
      injection e with e _
      have := (hJ d (by rw [hJJ]; simp)).1
      subst e
      omega
  unfold gapR
  rw [goneO_app, insO_app, goneO_one]
  generalize hGG : goneO g = gone at *
  generalize hJJ : joinAll (insO g) = J at *
  rcases hx.kind with e | e | e
  · exact absurd e hk
  · rw [if_neg (by omega : ¬ x.k = 3), Int.add_zero, insO_yes (by omega), joinAll_snoc, hJJ]
    have hp := join_push (o := x) (G := J) ⟨e, (hx.ins e).2.1⟩ hJ h1
    by_cases hz : 0 < gone
    · rw [if_pos hz, if_pos hz, List.cons_append, rtell_del _ hx.len e rfl, hp]; rfl
    · rw [if_neg hz, if_neg hz, ← hp]
      cases hR : J ++ out with
      | nil => rw [rtell_nil hx.len]; rfl
      | cons d r => rw [rtell_else r hx.len (fun hc => hhd d r hR hc.2)]
  · have hd := hx.del e
    have hz' : 0 < gone + x.n := by have := hd.2.2.2; omega
    rw [if_pos e, insO_no e, List.append_nil, hJJ, if_pos hz']
    by_cases hz : 0 < gone
    · rw [if_pos hz, List.cons_append, rtell_else _ hx.len (by omega), rpush_yes _ ⟨by rw [e]; rfl, by rw [hd.1]; rfl, by rw [hd.2.1]; rfl⟩]
      have : long (delO gone) x = delO (gone + x.n) := by
        unfold long delO
        rw [if_neg (by simp)]
        simp only [Opn.mk.injEq, true_and, and_true]
        omega
      rw [this]; rfl
    · obtain rfl : gone = 0 := by omega
      rw [if_neg hz, Int.zero_add, ← tm_delO hx e]
      cases hR : J ++ out with
      | nil => rw [rtell_nil hx.len, List.cons_append, hR]
      | cons d r => rw [rtell_else r hx.len (by omega), rpush_no r (fun ha => hhd d r hR (by rw [ha.1]; exact e)), List.cons_append, hR]
/-! ### sums of what is told -/
theorem sumN_rpush {p : Opn} {r : List Opn} (hp : Tm p) : sumN (rpush p r) ≤ sumN r + p.n := by
  cases r with
  | nil => rw [rpush_nil]; simp [sumN]
  | cons l r =>
    by_cases ha : Alike l p
    · rw [rpush_yes r ha, sumN_cons, sumN_cons]
      have := hp.nn
      have : (long l p).n ≤ l.n + p.n := by
        unfold long
        split
        · simp only; omega
        · simp only; omega
      omega
    · rw [rpush_no r ha, sumN_cons, sumN_cons]; omega
theorem sumN_rtell {p : Opn} {R : List Opn} (hp : Tm p) : sumN (rtell p R) ≤ sumN R + p.n := by
  cases R with
  | nil => rw [rtell_nil hp.len]; simp [sumN]
  | cons d r =>
    by_cases hc : p.k = 2 ∧ d.k = 3
    · rw [rtell_del r hp.len hc.1 hc.2, sumN_cons, sumN_cons]
      have := sumN_rpush (r := r) hp
      omega
    · rw [rtell_else r hp.len hc]; exact sumN_rpush hp
theorem tell_sumN : ∀ (xs : List Opn), (∀ p ∈ xs, Tm p) → sumN (tellR xs) ≤ sumN xs := fun xs => by
  induction xs using snoc_ind with
  | nil => intro _; simp [tellR_nil]
  | append_singleton xs p ih =>
    intro h
    rw [tellR_snoc, sumN_app]
    have h1 := ih fun o ho => h o (by simp [ho])
    have h2 := sumN_rtell (R := tellR xs) (h p (by simp))
    have h3 : sumN [p] = p.n := by simp [sumN]
    omega
theorem sumN_mem {R : List Opn} (h : ∀ o ∈ R, Tm o) {o : Opn} (ho : o ∈ R) : o.n ≤ sumN R := by
  induction R with
  | nil => cases ho
  | cons d r ih =>
    rw [sumN_cons]
    have h1 := (h d (by simp)).nn
    have h2 := sumN_nn (xs := r) fun o ho => h o (by simp [ho])
    rcases List.mem_cons.1 ho with rfl | ho
    · omega
    · have := ih (fun o ho => h o (by simp [ho])) ho; omega
theorem rmerge_eq {x : Opn} {R : List Opn} (hx : Tm x) (h1 : x.k = 1) (hR : ∀ o ∈ R, Tm o) (hb : sumN R + x.n ≤ 9223372036854775807) : rtell x R = rmerge x R := by
  cases R with
  | nil => rw [rtell_nil hx.len]; rfl
  | cons d r =>
    rw [rtell_else r hx.len (by omega)]
    by_cases ha : d.k = 1 ∧ d.pt = x.pt
    · have hd := (hR d (by simp)).ret ha.1
      rw [rmerge_yes r ha, rpush_yes r ⟨by omega, by rw [hd.1, (hx.ret h1).1], ha.2⟩, long, if_neg (by omega)]
      have := sumN_mem hR (o := d) (by simp)
      congr 2
      omega
    · rw [rmerge_no r ha, rpush_no r (fun hh => ha ⟨by rw [hh.1]; exact h1, hh.2.2⟩)]
/-- What is true of the two together. -/
structure RefI (xs : List Opn) : Prop where
  eq : refR xs = tellR xs
  hd : Hd1 (refS xs).1
  gp : Gp (refS xs).2
theorem gap_bound {g out R : List Opn} (he : gapR g ++ out = R) (hR : ∀ o ∈ R, Tm o) (hg : Gp g) : goneO g ≤ sumN R := by
  by_cases hz : 0 < goneO g
  · exact sumN_mem hR (o := delO (goneO g)) (by rw [← he, gapR, if_pos hz]; simp)
  · have := sumN_nn hR; omega
theorem ref_inv : ∀ (xs : List Opn), (∀ p ∈ xs, Tm p) → sumN xs ≤ 9223372036854775807 → RefI xs := fun xs => by
  induction xs using snoc_ind with
  | nil => intro _ _; exact ⟨rfl, fun l r e => (by cases e), fun o ho => (by cases ho)⟩
  | append_singleton xs x ih =>
    intro h hb
    rw [sumN_app] at hb
    have h3 : sumN [x] = x.n := by simp [sumN]
    have hx := h x (by simp)
    have ht : ∀ p ∈ xs, Tm p := fun o ho => h o (by simp [ho])
    have hnn := hx.nn
    obtain ⟨he, hh, hg⟩ := ih ht (by omega)
    have hs := tell_sumN xs ht
    have hT := tell_tm ht
    have hgb := gap_bound he hT hg
    by_cases h1 : x.k = 1
    · have e : refS (xs ++ [x]) = (rmerge x (tellR xs), []) := by rw [refS_snoc, refStep, if_pos h1, ← he]; rfl
      have em := rmerge_eq hx h1 hT (by omega)
      refine ⟨by rw [refR, e, tellR_snoc, em]; rfl, ?_, by rw [e]; intro o ho; cases ho⟩
      rw [e]
      intro l r el
      simp only at el
      cases hR : tellR xs with
      | nil => rw [hR] at el; injection el with el _; subst el; exact h1
      | cons d q =>
        rw [hR] at el
        by_cases ha : d.k = 1 ∧ d.pt = x.pt
        · rw [rmerge_yes q ha] at el; injection el with el _; subst el; exact ha.1
        · rw [rmerge_no q ha] at el; injection el with el _; subst el; exact h1
    · have e : refS (xs ++ [x]) = ((refS xs).1, (refS xs).2 ++ [x]) := by rw [refS_snoc, refStep, if_neg h1]
      refine ⟨?_, by rw [e]; exact hh, ?_⟩
      · rw [refR, e, tellR_snoc, ← he, refR, gap_step hg hh hx h1 (by omega)]
      · rw [e]
        intro o ho
        rcases List.mem_append.1 ho with ho | ho
        · exact hg o ho
        · obtain rfl := List.mem_singleton.1 ho; exact ⟨hx, h1⟩
/-! ### what is kept -/
theorem long_rs {l p : Opn} (hp : Tm p) (ha : Alike l p) : (long l p).rs.length = l.rs.length + p.rs.length := by
  unfold long
  split
  · simp
  · rename_i h2
    have : p.rs = [] := by
      rcases hp.kind with e | e | e
      · exact (hp.ret e).2.1
      · have := ha.1; omega
      · exact (hp.del e).2.2.1
    rw [this]; simp
theorem sumR_rtell {p : Opn} {R : List Opn} (hp : Tm p) : sumR (rtell p R) = sumR R + p.rs.length := by
  have hpush : ∀ r, sumR (rpush p r) = sumR r + p.rs.length := fun r => by
    cases r with
    | nil => rw [rpush_nil]; simp [sumR]
    | cons l r =>
      by_cases ha : Alike l p
      · rw [rpush_yes r ha, sumR_cons, sumR_cons, long_rs hp ha]; omega
      · rw [rpush_no r ha, sumR_cons, sumR_cons]; omega
  cases R with
  | nil => rw [rtell_nil hp.len]; simp [sumR]
  | cons d r =>
    by_cases hc : p.k = 2 ∧ d.k = 3
    · rw [rtell_del r hp.len hc.1 hc.2, sumR_cons, sumR_cons, hpush]; omega
    · rw [rtell_else r hp.len hc, hpush]
theorem goneO_cons (x : Opn) (r : List Opn) : goneO (x :: r) = (if x.k = 3 then x.n else 0) + goneO r := by simp [goneO]
theorem gone_rtell {p : Opn} {R : List Opn} (hp : Tm p) (hR : ∀ o ∈ R, Tm o) (hb : sumN R + p.n ≤ 9223372036854775807) : goneO (rtell p R) = goneO R + if p.k = 3 then p.n else 0 := by
  have hpush : ∀ r : List Opn, (∀ o ∈ r, o ∈ R) → goneO (rpush p r) = goneO r + if p.k = 3 then p.n else 0 := fun r hr => by
    cases r with
    | nil => rw [rpush_nil]; simp [goneO]
    | cons l r =>
      have hl : l.n ≤ sumN R := sumN_mem hR (hr l (by simp))
      by_cases ha : Alike l p
      · rw [rpush_yes r ha, goneO_cons, goneO_cons, (long_k l p).1, ha.1]
        by_cases h3 : p.k = 3
        · rw [if_pos h3, if_pos h3, if_pos h3]
          have : (long l p).n = l.n + p.n := by
            unfold long
            rw [if_neg (by have := ha.1; omega)]
            simp only
            omega
          omega
        · rw [if_neg h3, if_neg h3, if_neg h3]; omega
      · rw [rpush_no r ha, goneO_cons, goneO_cons]; omega
  cases R with
  | nil => rw [rtell_nil hp.len]; simp [goneO]
  | cons d r =>
    by_cases hc : p.k = 2 ∧ d.k = 3
    · rw [rtell_del r hp.len hc.1 hc.2, goneO_cons, goneO_cons, hpush r (fun o ho => by simp [ho])]; omega
    · rw [rtell_else r hp.len hc, hpush _ (fun o ho => ho)]
theorem len_rtell (p : Opn) (R : List Opn) : (rtell p R).length ≤ R.length + 1 := by
  have hpush : ∀ r, (rpush p r).length ≤ r.length + 1 := fun r => by
    cases r with
    | nil => simp [rpush_nil]
    | cons l r =>
      by_cases ha : Alike l p
      · rw [rpush_yes r ha]; simp
      · rw [rpush_no r ha]; simp
  by_cases hl : lenN p < 1
  · rw [rtell_zero hl]; omega
  cases R with
  | nil => rw [rtell_nil (by omega)]; simp
  | cons d r =>
    by_cases hc : p.k = 2 ∧ d.k = 3
    · rw [rtell_del r (by omega) hc.1 hc.2, List.length_cons, List.length_cons]; have := hpush r; omega
    · rw [rtell_else r (by omega) hc]; exact hpush _
structure Kept (xs R : List Opn) : Prop where
  rs : sumR R = sumR xs
  gone : goneO R = goneO xs
  len : R.length ≤ xs.length
theorem tell_kept : ∀ (xs : List Opn), (∀ p ∈ xs, Tm p) → sumN xs ≤ 9223372036854775807 → Kept xs (tellR xs) := fun xs => by
  induction xs using snoc_ind with
  | nil => intro _ _; exact ⟨rfl, rfl, Nat.le_refl _⟩
  | append_singleton xs x ih =>
    intro h hb
    rw [sumN_app] at hb
    have h3 : sumN [x] = x.n := by simp [sumN]
    have hx := h x (by simp)
    have ht : ∀ p ∈ xs, Tm p := fun o ho => h o (by simp [ho])
    have hnn := hx.nn
    obtain ⟨h1, h2, h4⟩ := ih ht (by omega)
    have hs := tell_sumN xs ht
    refine ⟨?_, ?_, ?_⟩
    · rw [tellR_snoc, sumR_rtell hx, h1, sumR_app]; simp [sumR]
    · rw [tellR_snoc, gone_rtell hx (tell_tm ht) (by omega), h2, goneO_app, goneO_one]
    · rw [tellR_snoc]
      have := len_rtell x (tellR xs)
      simp
      omega
/-! ### another order of telling -/
end Go.Proofs.YtohgopibimgjfaaGreat

/- N4: rows of ops that the call owns, with all that they hold; whole numbers copied, held side by side -/
namespace Go.Proofs.YtohgopibimgjfaaGreat
open Go.RowKit
set_option linter.unusedVariables false
set_option maxRecDepth 100000

/-- An op all of whose slices lie in blocks of F, which nobody else has. -/
structure OpOwn (F : Nat → Prop) (w : World) (z : Oz) : Prop where
  r : w.ownsRow 0 21 1 z.rv z.rs.length (z.rs.map (Value.int .i32))
  s : w.ownsRow 0 61 5 z.sv z.st.length (fl attC z.st)
  p : w.ownsRow 0 63 6 z.pv z.pt.length (fl chC z.pt)
  fr : ∀ g, z.rv.ownBlock = some g → F g
  fs : ∀ g, z.sv.ownBlock = some g → F g
  fp : ∀ g, z.pv.ownBlock = some g → F g
/-- Two ops whose runes lie apart. -/
def Ap (y z : Oz) : Prop := ∀ g, y.rv.ownBlock = some g → z.rv.ownBlock ≠ some g
structure Oown (F : Nat → Prop) (w : World) (v : Value) (zs : List Oz) : Prop where
  row : w.ownsRow 0 56 5 v zs.length (fl ozC zs)
  f : ∀ g, v.ownBlock = some g → F g
  own : ∀ z ∈ zs, OpOwn F w z
  ap : zs.Pairwise Ap
section
variable {F F' S : Nat → Prop} {w w' : World} {v v' : Value} {z : Oz} {zs : List Oz}
theorem OpOwn.ok (h : OpOwn F w z) : OpOk w z := ⟨(Ints.of_owns h.r).1, (Row.of_owns (C := attC) h.s).1, (Row.of_owns (C := chC) h.p).1⟩
theorem OpOwn.mono (h : OpOwn F w z) (hF : ∀ g, F g → F' g) : OpOwn F' w z := ⟨h.r, h.s, h.p, fun g hg => hF g (h.fr g hg), fun g hg => hF g (h.fs g hg), fun g hg => hF g (h.fp g hg)⟩
theorem OpOwn.kept (h : OpOwn F w z) (hr : ∀ g, z.rv.ownBlock = some g → w'.heap[g]? = w.heap[g]?) (hs : ∀ g, z.sv.ownBlock = some g → w'.heap[g]? = w.heap[g]?) (hp : ∀ g, z.pv.ownBlock = some g → w'.heap[g]? = w.heap[g]?) : OpOwn F w' z :=
  ⟨owns_kept h.r hr, owns_kept h.s hs, owns_kept h.p hp, h.fr, h.fs, h.fp⟩
theorem OpOwn.off (h : OpOwn F w z) (ho : Off S w w') (hS : ∀ k, F k → k < w.heap.size → ¬ S k) : OpOwn F w' z :=
  h.kept (fun g hg => ho.block g (own_lt7 h.r hg) (hS g (h.fr g hg) (own_lt7 h.r hg))) (fun g hg => ho.block g (own_lt7 h.s hg) (hS g (h.fs g hg) (own_lt7 h.s hg))) (fun g hg => ho.block g (own_lt7 h.p hg) (hS g (h.fp g hg) (own_lt7 h.p hg)))
theorem OpOwn.below (h : OpOwn F w z) (hb : Below w.heap.size w w') : OpOwn F w' z := h.off (S := fun _ => False) (Off.of_below hb) (fun _ _ _ h => h)
theorem Oown.orow (h : Oown F w v zs) : Orow w v zs := ⟨(Row.of_owns (C := ozC) h.row).1, fun z hz => (h.own z hz).ok⟩
theorem Oown.mono (h : Oown F w v zs) (hF : ∀ g, F g → F' g) : Oown F' w v zs := ⟨h.row, fun g hg => hF g (h.f g hg), fun z hz => (h.own z hz).mono hF, h.ap⟩
theorem Oown.off (h : Oown F w v zs) (ho : Off S w w') (hS : ∀ k, F k → k < w.heap.size → ¬ S k) : Oown F w' v zs :=
  ⟨owns_kept h.row (fun g hg => ho.block g (own_lt7 h.row hg) (hS g (h.f g hg) (own_lt7 h.row hg))), h.f, fun z hz => (h.own z hz).off ho hS, h.ap⟩
theorem Oown.below (h : Oown F w v zs) (hb : Below w.heap.size w w') : Oown F w' v zs := h.off (S := fun _ => False) (Off.of_below hb) (fun _ _ _ h => h)
theorem Oown.nil (F : Nat → Prop) (w : World) : Oown F w (.slice none 0 0) [] := ⟨World.ownsRow_nil _ _ _ _, fun g hg => by simp [Value.ownBlock] at hg, by simp, List.Pairwise.nil⟩
theorem Oown.shape (h : Oown F w v zs) : ∃ a c, v = .slice a zs.length c ∧ (a = none ∨ ∃ g, a = some ⟨g, 0, none⟩) ∧ zs.length ≤ c := own_shape h.row
theorem tag_ne {B B' : Nat} {e e' : TypeId} {s s' n n' : Nat} {u u' : Value} {xs ys : List Value} (h : w.ownsRow B e s u n xs) (h' : w.ownsRow B' e' s' u' n' ys) (hne : e ≠ e') {g : Nat} (hg : u.ownBlock = some g) : u'.ownBlock ≠ some g := fun hg' => by
  obtain ⟨c1, h1⟩ := own_tag h hg
  obtain ⟨c2, h2⟩ := own_tag h' hg'
  rw [h1] at h2
  injection h2 with h2
  injection h2 with _ h2 _
  exact hne h2
/-- The row's own block turned, no other. -/
theorem OpOwn.row (h : OpOwn F w z) {u : Value} {n : Nat} {xs : List Value} (hr : w.ownsRow 0 56 5 u n xs) (ho : Off (fun k => u.ownBlock = some k) w w') : OpOwn F w' z :=
  h.kept (fun g hg => ho.block g (own_lt7 h.r hg) (tag_ne h.r hr (by decide) hg)) (fun g hg => ho.block g (own_lt7 h.s hg) (tag_ne h.s hr (by decide) hg)) (fun g hg => ho.block g (own_lt7 h.p hg) (tag_ne h.p hr (by decide) hg))
/-- A shorter part from the front on. -/
theorem owns_head {B : Nat} {e : TypeId} {size n k c : Nat} {a : Option Addr} {xs : List Value} (h : w.ownsRow B e size (.slice a n c) n xs) (hk : k ≤ n) (ha : a ≠ none) : w.ownsRow B e size (.slice a k c) k (xs.take (k * size)) := by
  refine ⟨?_, ?_⟩
  · have := h.1
    rw [List.length_take, this]
    exact Nat.min_eq_left (Nat.mul_le_mul_right _ hk)
  · rcases h.2 with ⟨hn, _⟩ | ⟨g, cap, cur, hv, hB, hg, hc, hm, hs, ht⟩
    · injection hn with hn; exact absurd hn ha
    · injection hv with e1 e2 e3
      subst e1 e3
      refine .inr ⟨g, c, cur, rfl, hB, hg, by omega, hm, hs, ?_⟩
      rw [← ht, List.take_take, Nat.min_eq_left (Nat.mul_le_mul_right _ hk)]
theorem fl_take {α : Type} (C : Cel α) (xs : List α) {k : Nat} (hk : k ≤ xs.length) : (fl C xs).take (k * C.m) = fl C (xs.take k) := by
  have e : fl C xs = fl C (xs.take k) ++ fl C (xs.drop k) := by rw [← fl_app, List.take_append_drop]
  rw [e, List.take_append_of_le_length (by rw [fl_len, List.length_take, Nat.min_eq_left hk]; exact Nat.le_refl _), List.take_of_length_le (by rw [fl_len, List.length_take, Nat.min_eq_left hk]; exact Nat.le_refl _)]
theorem Oown.head {a : Option Addr} {c k : Nat} (h : Oown F w (.slice a zs.length c) zs) (hk : k ≤ zs.length) (h0 : 0 < zs.length) : Oown F w (.slice a k c) (zs.take k) := by
  have ha : a ≠ none := by
    rcases h.row.2 with ⟨_, hn⟩ | ⟨g, cap, cur, hv, -⟩
    · omega
    · injection hv with e1 _ _; rw [e1]; simp
  have := owns_head h.row hk ha
  have hl : (zs.take k).length = k := by rw [List.length_take]; omega
  refine ⟨by rw [hl, ← fl_take ozC zs hk]; exact this, fun g hg => h.f g (by cases a with | none => exact absurd rfl ha | some x => simpa [Value.ownBlock] using hg), fun z hz => h.own z (List.mem_of_mem_take hz), h.ap.sublist (List.take_sublist _ _)⟩
/-- One more op behind the row, as the row grew. -/
theorem Oown.more (h : Oown F w v zs) (hF : ∀ g, F g → F' g) (hg : w.grownBy w' v.ownBlock) (hz : OpOwn F' w z) (hap : ∀ y ∈ zs, Ap y z) (ho : w'.ownsRow 0 56 5 v' (zs.length + 1) (fl ozC zs ++ ozC.c z)) (hf : ∀ g, v'.ownBlock = some g → F' g) : Oown F' w' v' (zs ++ [z]) := by
  have hO : Off (fun k => v.ownBlock = some k) w w' := Off.of_grown hg (fun g hg => hg)
  refine ⟨?_, hf, fun y hy => ?_, ?_⟩
  · rw [List.length_append, fl_app, fl_one]; exact ho
  · rcases List.mem_append.1 hy with hy | hy
    · exact ((h.own y hy).mono hF).row h.row hO
    · obtain rfl := List.mem_singleton.1 hy; exact hz.row h.row hO
  · rw [List.pairwise_append]
    exact ⟨h.ap, List.pairwise_singleton _ _, fun y hy x hx => by obtain rfl := List.mem_singleton.1 hx; exact hap y hy⟩
end
/-- Runes that lie in a block made behind all others lie apart from them. -/
theorem ap_new {F : Nat → Prop} {w : World} {zs : List Oz} {z : Oz} (h : ∀ y ∈ zs, OpOwn F w y) (hz : ∀ g, z.rv.ownBlock = some g → w.heap.size ≤ g) : ∀ y ∈ zs, Ap y z := fun y hy g hg hg2 => by
  have h1 := own_lt7 (h y hy).r hg
  have h2 := hz g hg2
  omega

theorem info_op : ∃ i, Tryz.prog.info? 56 = some i ∧ i.zero = some (.agg (opcs 0 0 none 0 0 none 0 0 none 0 0)) ∧ i.size = 5 ∧ i.bytes = 88 := ⟨_, rfl, rfl, rfl, rfl⟩
theorem info_i32 : ∃ i, Tryz.prog.info? 21 = some i ∧ i.zero = some (.int .i32 0) ∧ i.size = 1 ∧ i.bytes = 4 := ⟨_, rfl, rfl, rfl, rfl⟩
theorem inil_eql (a : Option Addr) (l c : Nat) (w : World) : (binOp .eql 52 (.slice a l c) (.slice none 0 0)).run Tryz.prog w = .ok (.bool a.isNone) w := by
  simp only [binOp, Sem.run_bind, run_equal_slice_nil w 52 21 a l c Tryz.underlying52, Result.andThen_ok, Sem.run_pure]
theorem iclone_any (v : Value) (xs : List Int) (w : World) (hv : Ints .i32 w v xs) (hl : xs.length * 4 ≤ 140737488355328) :
    Calls Tryz.prog 113 #[v] w fun e w' => ∃ u, e = .returned u ∧ w'.ownsRow w.heap.size 21 1 u xs.length (xs.map (Value.int .i32)) ∧ Below w.heap.size w w' := by
  obtain ⟨i0, hi, hz0, hz1, hz2⟩ := info_i32
  have HV := Lib.hid hv
  have hnil := fun a l c w => inil_eql a l c w
  obtain ⟨a, cap, rfl⟩ := hv.shape
  cases a with
  | none =>
    obtain ⟨rfl, rfl⟩ : xs = [] ∧ cap = 0 := by
      rcases hv with ⟨_, _, h, hx, _, h0⟩ | ⟨_, _, _, h, _⟩
      · injection h with h1 _ h3; subst hx; exact ⟨rfl, by rw [h3]; exact h0 h1.symm⟩
      · injection h with h1; cases h1
    clear hv HV
    go_enter Tryz.func113, Tryz.ntmps113
    go_wp2
    go_ret
    exact ⟨_, rfl, World.ownsRow_nil _ _ _ _, Below.refl _ _⟩
  | some a =>
    clear hv
    have hB := (Below.refl w.heap.size w).alloc (Nat.le_refl _) (.cells #[] 21)
    go_enter Tryz.func113, Tryz.ntmps113
    go_wp2_with (at_builtin; refine wpList_append_ints rfl (.tmp 5) (.tmp 6) 52 rfl w.heap.size 21 i0 (.int .i32 0) 4 Tryz.underlying52 hi hz0 hz1 hz2 rfl _ 0 [] rfl (owns_none w 21 1) _ .i32 xs rfl (HV.out.below hB) (by unfold maxLen; omega) (by omega) (by simp) ?_; intro v3 w3 hown3 hgrow3)
    go_ret
    refine ⟨_, rfl, ?_, hB.grown hgrow3 (by simp) (fun j hj => own_base (owns_none w 21 1) hj)⟩
    rw [Nat.zero_add, List.nil_append] at hown3
    exact hown3
/-- Two rows of whole numbers, side by side. -/
theorem iequal_any (v1 v2 : Value) (xs ys : List Int) (w : World) (hv1 : Ints .i32 w v1 xs) (hv2 : Ints .i32 w v2 ys) :
    Calls Tryz.prog 134 #[v1, v2] w fun e w' => e = .returned (.bool (sameB xs ys)) ∧ ∃ n, w' = w.drewN n := by
  have l1 := hv1.len
  have l2 := hv2.len
  by_cases hlen : xs.length = ys.length
  · rcases hv1 with ⟨a, cap, rfl, rfl, hm, _⟩ | ⟨b, off, cap, rfl, h0, h1, hm, hc⟩
    · obtain rfl : ys = [] := List.eq_nil_of_length_eq_zero hlen.symm
      obtain ⟨a2, cap2, rfl⟩ := hv2.shape
      clear hv2 hlen l1 l2
      go_enter Tryz.func134, Tryz.ntmps134
      go_wp2
      refine wp_loop_rounds 1 ?_
      rw [rounds_succ]
      go_wp2
      go_ret
      exact ⟨rfl, 0, rfl⟩
    · rcases hv2 with ⟨a, cap2, rfl, rfl, hm2, _⟩ | ⟨b2, off2, cap2, rfl, h02, h12, hm2, hc2⟩
      · simp at hlen; subst hlen; simp at h0
      · have hq : ((xs.length : Int) == ys.length) = true := by rw [hlen]; simp
        have hq2 : ((xs.length : Int) != ys.length) = false := by rw [hlen]; simp
        have HL := Lib.hid hlen
        have hle : xs.length ≤ ys.length := by omega
        unfold maxLen at hm hm2
        clear hlen
        go_enter Tryz.func134, Tryz.ntmps134
        go_wp2
        go_loopw [13] (fun i wr => ∃ k n : Nat, k ≤ xs.length ∧ i = .int .i64 k ∧ Hid (xs.take k = ys.take k) ∧ wr = w.drewN n) (fun i _ => xs.length - (intOf i).toNat)
        case atStart => exact ⟨0, 0, Nat.zero_le _, rfl, by simp [Hid], rfl⟩
        case round =>
          obtain ⟨k, n, hk, rfl, ht, rfl⟩ := hrel
          by_cases hlt : k < xs.length
          · have hcx := hc k hlt
            have hcy := hc2 k (by omega)
            clear hc hc2
            have HK : xs.getD k 0 = ys.getD k 0 → Hid (xs.take (k + 1) = ys.take (k + 1)) := fun he => by
              show xs.take (k + 1) = ys.take (k + 1)
              rw [take_snoc xs k hlt, take_snoc ys k (by omega), ht.out, he]
            have HF := same_ne xs ys k hlt (by omega)
            generalize xs.getD k 0 = x at hcx HK HF
            generalize ys.getD k 0 = y at hcy HK HF
            by_cases he : x = y
            · have HT := HK he
              have hq3 : (x != y) = false := by simp [he]
              have hq4 : (x == y) = true := by simp [he]
              clear HK HF he ht
              go_wp2
              go_quiet (fail)
              go_wp2
              go_roundw
              case rel => exact ⟨k + 1, n + nq, by omega, by go_num, HT, by simp⟩
              case measure => simp [intOf]; omega
            · have HT := Lib.hid (HF he)
              have hq3 : (x != y) = true := by simp [he]
              have hq4 : (x == y) = false := by simp [he]
              clear HK HF he ht
              go_wp2
              go_quiet (fail)
              go_wp2
              go_ret
              exact ⟨ret_bool HT.out.symm, n + nq, by simp⟩
          · go_wp2
            go_ret
            exact ⟨ret_bool (same_eq xs ys HL.out (by obtain rfl : k = xs.length := by omega
                                                      exact ht.out)).symm, n, rfl⟩
  · have hq : ((xs.length : Int) == ys.length) = false := by simp; omega
    have hq2 : ((xs.length : Int) != ys.length) = true := by simp; omega
    have hf : sameB xs ys = false := by unfold sameB; rw [decide_eq_false_iff_not]; rintro rfl; exact hlen rfl
    obtain ⟨a1, cap1, rfl⟩ := hv1.shape
    obtain ⟨a2, cap2, rfl⟩ := hv2.shape
    rw [hf]
    clear hv1 hv2 hf hlen
    go_enter Tryz.func134, Tryz.ntmps134
    go_wp2
    go_ret
    exact ⟨rfl, 0, rfl⟩
end Go.Proofs.YtohgopibimgjfaaGreat

/- N5: two ops, two rows of ops, held side by side -/
namespace Go.Proofs.YtohgopibimgjfaaGreat
open Go.RowKit
set_option linter.unusedVariables false
set_option maxRecDepth 100000

theorem iequal_b (v1 v2 : Value) (xs ys : List Int) (w : World) (hv1 : Ints .i32 w v1 xs) (hv2 : Ints .i32 w v2 ys) :
    Calls Tryz.prog 134 #[v1, v2] w fun e w' => e = .returned (.bool (decide (xs = ys))) ∧ Below w.heap.size w w' :=
  (iequal_any v1 v2 xs ys w hv1 hv2).mono fun e w' ⟨he, n, hn⟩ => ⟨he, by rw [hn]; exact blw_drewN (Below.refl _ _) n⟩
theorem isame_b (v1 v2 : Value) (xs ys : List Int) (w : World) (hv1 : Ints .i32 w v1 xs) (hv2 : Ints .i32 w v2 ys) :
    Calls Tryz.prog 25 #[v1, v2] w fun e w' => e = .returned (.bool (decide (xs = ys))) ∧ Below w.heap.size w w' :=
  (same_any v1 v2 xs ys w hv1 hv2).mono fun e w' ⟨he, n, hn⟩ => ⟨he, by rw [hn]; exact blw_drewN (Below.refl _ _) n⟩
theorem rsame5_b (v1 v2 : Value) (xs ys : List Att) (w : World) (hv1 : Arow w v1 xs) (hv2 : Arow w v2 ys) :
    Calls Tryz.prog 26 #[v1, v2] w fun e w' => e = .returned (.bool (decide (xs = ys))) ∧ Below w.heap.size w w' :=
  (rsame_any5 v1 v2 xs ys w hv1 hv2).mono fun e w' ⟨he, n, hn⟩ => ⟨he, by rw [hn]; exact blw_drewN (Below.refl _ _) n⟩
theorem rsame6_b (v1 v2 : Value) (xs ys : List Chg) (w : World) (hv1 : Crow w v1 xs) (hv2 : Crow w v2 ys) :
    Calls Tryz.prog 27 #[v1, v2] w fun e w' => e = .returned (.bool (decide (xs = ys))) ∧ Below w.heap.size w w' :=
  (rsame_any6 v1 v2 xs ys w hv1 hv2).mono fun e w' ⟨he, n, hn⟩ => ⟨he, by rw [hn]; exact blw_drewN (Below.refl _ _) n⟩
theorem opn_eq {y z : Oz} : y.o = z.o ↔ y.k = z.k ∧ y.n = z.n ∧ y.rs = z.rs ∧ y.st = z.st ∧ y.pt = z.pt := by
  unfold Oz.o
  rw [Opn.mk.injEq]

theorem opn_dec (y z : Oz) : decide (y.o = z.o) = (decide (y.k = z.k) && (decide (y.n = z.n) && (decide (y.rs = z.rs) && (decide (y.st = z.st) && decide (y.pt = z.pt))))) := by
  by_cases h : y.o = z.o
  · obtain ⟨h1, h2, h3, h4, h5⟩ := opn_eq.1 h
    rw [decide_eq_true h, decide_eq_true h1, decide_eq_true h2, decide_eq_true h3, decide_eq_true h4, decide_eq_true h5]; rfl
  · rw [decide_eq_false h]
    symm
    simp only [← Bool.decide_and]
    rw [decide_eq_false_iff_not]
    exact fun hh => h (opn_eq.2 hh)

set_option maxHeartbeats 2000000 in
theorem sameOp_any (y z : Oz) (w : World) (hy : OpOk w y) (hz : OpOk w z) :
    Calls Tryz.prog 110 #[y.v, z.v] w fun e w' => e = .returned (.bool (decide (y.o = z.o))) ∧ Below w.heap.size w w' := by
  have HB := Lib.hid (below_add (kbelow_one w (.cells y.cs 56)) (kbelow_one _ (.cells z.cs 56)) (kbelow_one w (.cells y.cs 56)).size)
  have HX := Lib.hid ((OAt.new w y 56).below (kbelow_one _ (.cells z.cs 56)))
  have HY := Lib.hid (OAt.new (w.alloc (.cells y.cs 56)) z 56)
  have HR := Lib.hid (fun W (hb : Below w.heap.size w W) => iequal_b y.rv z.rv y.rs z.rs W (hy.r.below hb) (hz.r.below hb))
  have HS := Lib.hid (fun W (hb : Below w.heap.size w W) => same_any5 y.sv z.sv y.st z.st W (hy.s.below hb (Nat.le_refl _)) (hz.s.below hb (Nat.le_refl _)))
  have HP := Lib.hid (fun W (hb : Below w.heap.size w W) => same_any6 y.pv z.pv y.pt z.pt W (hy.p.below hb (Nat.le_refl _)) (hz.p.below hb (Nat.le_refl _)))
  rw [opn_dec y z]
  rw [World.size_alloc] at HY
  clear hy hz
  obtain ⟨yk, yn, yra, yrc, yrs, ysa, ysc, yst, ypa, ypc, ypt⟩ := y
  obtain ⟨zk, zn, zra, zrc, zrs, zsa, zsc, zst, zpa, zpc, zpt⟩ := z
  simp only [Oz.rv, Oz.sv, Oz.pv, Oz.cs, Oz.v] at *
  generalize decide (yrs = zrs) = b3 at *
  generalize decide (yst = zst) = b4 at *
  generalize decide (ypt = zpt) = b5 at *

  by_cases e1 : yk = zk
  rotate_left
  · have q1 : (yk == zk) = false := by simpa using e1
    rw [decide_eq_false e1]
    clear e1
    go_enter Tryz.func110, Tryz.ntmps110
    go_wp2
    go_ret
    exact ⟨rfl, HB.out⟩
  subst e1
  by_cases e2 : yn = zn
  rotate_left
  · have q2 : (yn == zn) = false := by simpa using e2
    rw [decide_eq_true (rfl : yk = yk), decide_eq_false e2]
    clear e2
    go_enter Tryz.func110, Tryz.ntmps110
    go_wp2
    go_ret
    exact ⟨rfl, HB.out⟩
  subst e2
  rw [decide_eq_true (rfl : yk = yk), decide_eq_true (rfl : yn = yn)]
  cases b3
  · skip
    go_enter Tryz.func110, Tryz.ntmps110
    go_wp2_with (first
      | (go_at_call 134; (with_reducible refine (HR.out _ HB.out).mono ?_); rintro e w1 ⟨rfl, hb⟩; have HB1 := Lib.hid (below_add HB.out hb HB.out.size); obtain ⟨c0, c1, c2, c3, c4⟩ := HX.out.below hb; obtain ⟨d0, d1, d2, d3, d4⟩ := HY.out.below hb; have HX1 := Lib.hid (HX.out.below hb); have HY1 := Lib.hid (HY.out.below hb); clear hb))
    go_ret
    exact ⟨rfl, HB1.out⟩
  cases b4
  · skip
    go_enter Tryz.func110, Tryz.ntmps110
    go_wp2_with (first
      | (go_at_call 134; (with_reducible refine (HR.out _ HB.out).mono ?_); rintro e w1 ⟨rfl, hb⟩; have HB1 := Lib.hid (below_add HB.out hb HB.out.size); obtain ⟨c0, c1, c2, c3, c4⟩ := HX.out.below hb; obtain ⟨d0, d1, d2, d3, d4⟩ := HY.out.below hb; have HX1 := Lib.hid (HX.out.below hb); have HY1 := Lib.hid (HY.out.below hb); clear hb)
      | (go_at_call 135; (with_reducible refine (HS.out _ HB1.out).mono ?_); rintro e w2 ⟨rfl, hb⟩; have HB2 := Lib.hid (below_add HB1.out hb HB1.out.size); obtain ⟨c0, c1, c2, c3, c4⟩ := HX1.out.below hb; obtain ⟨d0, d1, d2, d3, d4⟩ := HY1.out.below hb; clear hb))
    go_ret
    exact ⟨rfl, HB2.out⟩
  cases b5
  · skip
    go_enter Tryz.func110, Tryz.ntmps110
    go_wp2_with (first
      | (go_at_call 134; (with_reducible refine (HR.out _ HB.out).mono ?_); rintro e w1 ⟨rfl, hb⟩; have HB1 := Lib.hid (below_add HB.out hb HB.out.size); obtain ⟨c0, c1, c2, c3, c4⟩ := HX.out.below hb; obtain ⟨d0, d1, d2, d3, d4⟩ := HY.out.below hb; have HX1 := Lib.hid (HX.out.below hb); have HY1 := Lib.hid (HY.out.below hb); clear hb)
      | (go_at_call 135; (with_reducible refine (HS.out _ HB1.out).mono ?_); rintro e w2 ⟨rfl, hb⟩; have HB2 := Lib.hid (below_add HB1.out hb HB1.out.size); obtain ⟨c0, c1, c2, c3, c4⟩ := HX1.out.below hb; obtain ⟨d0, d1, d2, d3, d4⟩ := HY1.out.below hb; clear hb)
      | (go_at_call 136; (with_reducible refine (HP.out _ HB2.out).mono ?_); rintro e w3 ⟨rfl, hb⟩; have HB3 := Lib.hid (below_add HB2.out hb HB2.out.size); clear hb))
    go_ret
    exact ⟨rfl, HB3.out⟩
  · skip
    go_enter Tryz.func110, Tryz.ntmps110
    go_wp2_with (first
      | (go_at_call 134; (with_reducible refine (HR.out _ HB.out).mono ?_); rintro e w1 ⟨rfl, hb⟩; have HB1 := Lib.hid (below_add HB.out hb HB.out.size); obtain ⟨c0, c1, c2, c3, c4⟩ := HX.out.below hb; obtain ⟨d0, d1, d2, d3, d4⟩ := HY.out.below hb; have HX1 := Lib.hid (HX.out.below hb); have HY1 := Lib.hid (HY.out.below hb); clear hb)
      | (go_at_call 135; (with_reducible refine (HS.out _ HB1.out).mono ?_); rintro e w2 ⟨rfl, hb⟩; have HB2 := Lib.hid (below_add HB1.out hb HB1.out.size); obtain ⟨c0, c1, c2, c3, c4⟩ := HX1.out.below hb; obtain ⟨d0, d1, d2, d3, d4⟩ := HY1.out.below hb; clear hb)
      | (go_at_call 136; (with_reducible refine (HP.out _ HB2.out).mono ?_); rintro e w3 ⟨rfl, hb⟩; have HB3 := Lib.hid (below_add HB2.out hb HB2.out.size); clear hb))
    go_ret
    exact ⟨rfl, HB3.out⟩
end Go.Proofs.YtohgopibimgjfaaGreat

/- N6: rows of ops held side by side -/
namespace Go.Proofs.YtohgopibimgjfaaGreat
open Go.RowKit
set_option linter.unusedVariables false
set_option maxRecDepth 100000

theorem map_step {ys zs : List Oz} {k : Nat} (h1 : k < ys.length) (h2 : k < zs.length) (h : (ys.take k).map Oz.o = (zs.take k).map Oz.o) (he : ys[k].o = zs[k].o) : (ys.take (k + 1)).map Oz.o = (zs.take (k + 1)).map Oz.o := by
  rw [tsnoc h1, tsnoc h2, List.map_append, List.map_append, h, List.map_singleton, List.map_singleton, he]
theorem map_bad {ys zs : List Oz} {k : Nat} (h1 : k < ys.length) (h2 : k < zs.length) (he : ¬ ys[k].o = zs[k].o) : ¬ ys.map Oz.o = zs.map Oz.o := fun h => he (by
  have e1 : (ys.map Oz.o)[k]? = some ys[k].o := by rw [List.getElem?_map, List.getElem?_eq_getElem h1]; rfl
  have e2 : (zs.map Oz.o)[k]? = some zs[k].o := by rw [List.getElem?_map, List.getElem?_eq_getElem h2]; rfl
  rw [h, e2] at e1
  exact (Option.some.inj e1).symm)
theorem map_end {ys zs : List Oz} (hl : ys.length = zs.length) (h : (ys.take ys.length).map Oz.o = (zs.take ys.length).map Oz.o) : ys.map Oz.o = zs.map Oz.o := by
  rw [List.take_of_length_le (Nat.le_refl _), hl, List.take_of_length_le (Nat.le_refl _)] at h
  exact h
theorem sameOp_b (b : Bool) (y z : Oz) (w : World) (hy : OpOk w y) (hz : OpOk w z) (h : decide (y.o = z.o) = b) :
    Calls Tryz.prog 110 #[y.v, z.v] w fun e w' => e = .returned (.bool b) ∧ Below w.heap.size w w' := by
  subst h
  exact sameOp_any y z w hy hz
theorem same_enters : ∀ args w, (callFunc 110 args).run Tryz.prog w = .ok (.enter 110 args) w := enters_of Tryz.func110 (by kernel_rfl) rfl

set_option maxHeartbeats 2000000 in
theorem eqFunc_any (u v : Value) (ys zs : List Oz) (w : World) (hu : Orow w u ys) (hv : Orow w v zs) :
    Calls Tryz.prog 109 #[u, v, .func (.func 110) #[] #[]] w fun e w' => e = .returned (.bool (decide (ys.map Oz.o = zs.map Oz.o))) ∧ Below w.heap.size w w' := by
  have hl1 := hu.len
  have hl2 := hv.len
  have eg := same_enters
  obtain ⟨a1, cap1, rfl⟩ := hu.shape
  obtain ⟨a2, cap2, rfl⟩ := hv.shape
  by_cases hl : ys.length = zs.length
  · by_cases h0 : 0 < ys.length
    · obtain ⟨b1, o1, rfl, -, -, -, -, hat1⟩ := hu.row.ats h0
      obtain ⟨b2, o2, rfl, -, -, -, -, hat2⟩ := hv.row.ats (by omega)
      have H1 := Lib.hid hat1
      have H2 := Lib.hid hat2
      have K1 := Lib.hid hu.ok
      have K2 := Lib.hid hv.ok
      have HL := Lib.hid hl
      clear hat1 hat2 hu hv
      rw [← hl]
      clear hl hl2
      go_enter Tryz.func109, Tryz.ntmps109
      go_wp2
      go_loopw [17] (fun i wr => ∃ k : Nat, k ≤ ys.length ∧ i = .int .i64 k ∧ Hid ((ys.take k).map Oz.o = (zs.take k).map Oz.o ∧ Below w.heap.size w wr)) (fun i _ => ys.length - (intOf i).toNat)
      case atStart => exact ⟨0, Nat.zero_le _, rfl, Lib.hid ⟨rfl, Below.refl _ _⟩⟩
      case round =>
        obtain ⟨k, hk, rfl, HP⟩ := hrel
        by_cases hlt : k < ys.length
        · have hlt2 : k < zs.length := by rw [← HL.out]; exact hlt
          have c := (H1.out k hlt).below HP.out.2
          have d := ((H2.out k hlt2).below HP.out.2).below (kbelow_one wr (.cells ys[k].cs 56))
          have HB := Lib.hid HP.out.2
          have HB2 := Lib.hid (below_add HP.out.2 (kbelow_two wr (.cells ys[k].cs 56) (.cells zs[k].cs 56)) HP.out.2.size)
          have HQ := Lib.hid (fun b => sameOp_b b ys[k] zs[k] _ ((K1.out _ (List.getElem_mem hlt)).below HB2.out) ((K2.out _ (List.getElem_mem hlt2)).below HB2.out))
          have HLT := Lib.hid hlt
          by_cases hxy : ys[k].o = zs[k].o
          · have HS := Lib.hid (map_step hlt hlt2 HP.out.1 hxy)
            have HQ := Lib.hid (HQ.out true (decide_eq_true hxy))
            clear hxy HP
            generalize ys[k] = y at *
            generalize zs[k] = z at *
            obtain ⟨c0, c1, c2, c3, c4⟩ := c
            obtain ⟨d0, d1, d2, d3, d4⟩ := d
            go_wp2_with (go_at_fn 110; (with_reducible refine (HQ.out).mono ?_); rintro e w1 ⟨rfl, hb⟩; have HB3 := Lib.hid (below_add HB2.out hb HB2.out.size); clear hb)
            go_roundw
            case rel => exact ⟨k + 1, HLT.out, by go_num, Lib.hid ⟨HS.out, HB3.out⟩⟩
            case measure => have := HLT.out; simp [intOf]; omega
          · have HS := Lib.hid (map_bad hlt hlt2 hxy)
            have HQ := Lib.hid (HQ.out false (decide_eq_false hxy))
            clear hxy HP
            generalize ys[k] = y at *
            generalize zs[k] = z at *
            obtain ⟨c0, c1, c2, c3, c4⟩ := c
            obtain ⟨d0, d1, d2, d3, d4⟩ := d
            go_wp2_with (go_at_fn 110; (with_reducible refine (HQ.out).mono ?_); rintro e w1 ⟨rfl, hb⟩; have HB3 := Lib.hid (below_add HB2.out hb HB2.out.size); clear hb)
            go_ret
            exact ⟨dec_no HS.out, HB3.out⟩
        · obtain rfl : k = ys.length := by omega
          have HE := Lib.hid (map_end HL.out HP.out.1)
          have HB := Lib.hid HP.out.2
          clear HP
          go_wp2
          go_ret
          exact ⟨dec_yes HE.out, HB.out⟩
    · obtain rfl : ys = [] := List.eq_nil_of_length_eq_zero (by omega)
      obtain rfl : zs = [] := List.eq_nil_of_length_eq_zero (by simpa using hl.symm)
      clear hu hv h0 hl hl1 hl2
      go_enter Tryz.func109, Tryz.ntmps109
      go_wp2
      refine wp_loop_rounds 1 ?_
      rw [rounds_succ]
      go_wp2
      go_ret
      exact ⟨rfl, Below.refl _ _⟩
  · have HN := Lib.hid (show ¬ ys.map Oz.o = zs.map Oz.o from fun h => hl (by have := congrArg List.length h; simpa using this))
    have e1 : ((ys.length : Int) != (zs.length : Int)) = true := by simp; omega
    clear hu hv
    go_enter Tryz.func109, Tryz.ntmps109
    go_wp2
    go_ret
    exact ⟨dec_no HN.out, Below.refl _ _⟩
theorem osame_any (u v : Value) (ys zs : List Oz) (w : World) (hu : Orow w u ys) (hv : Orow w v zs) :
    Calls Tryz.prog 73 #[u, v] w fun e w' => e = .returned (.bool (decide (ys.map Oz.o = zs.map Oz.o))) ∧ Below w.heap.size w w' := by
  have HQ := Lib.hid (eqFunc_any u v ys zs w hu hv)
  generalize decide (ys.map Oz.o = zs.map Oz.o) = b at *
  clear hu hv
  go_enter Tryz.func73, Tryz.ntmps73
  go_wp2_with (go_at_call 109; (with_reducible refine (HQ.out).mono ?_); rintro e w1 ⟨rfl, hb⟩)
  go_ret
  exact ⟨rfl, hb⟩
end Go.Proofs.YtohgopibimgjfaaGreat

/- N7: the reference's Same -/
namespace Go.Proofs.YtohgopibimgjfaaGreat
open Go.RowKit
set_option linter.unusedVariables false
set_option maxRecDepth 100000

theorem opn_no1 {y z : Oz} (h : ¬ y.k = z.k) : ¬ y.o = z.o := fun e => h (opn_eq.1 e).1
theorem opn_no2 {y z : Oz} (h : ¬ y.n = z.n) : ¬ y.o = z.o := fun e => h (opn_eq.1 e).2.1
theorem opn_no3 {y z : Oz} (h : ¬ y.rs = z.rs) : ¬ y.o = z.o := fun e => h (opn_eq.1 e).2.2.1
theorem opn_no4 {y z : Oz} (h : ¬ y.st = z.st) : ¬ y.o = z.o := fun e => h (opn_eq.1 e).2.2.2.1
theorem opn_no5 {y z : Oz} (h : ¬ y.pt = z.pt) : ¬ y.o = z.o := fun e => h (opn_eq.1 e).2.2.2.2
theorem isame_f (b : Bool) (v1 v2 : Value) (xs ys : List Int) (h : decide (xs = ys) = b) (w : World) (hv1 : Ints .i32 w v1 xs) (hv2 : Ints .i32 w v2 ys) :
    Calls Tryz.prog 25 #[v1, v2] w fun e w' => e = .returned (.bool b) ∧ Below w.heap.size w w' := by subst h; exact isame_b v1 v2 xs ys w hv1 hv2
theorem rsame5_f (b : Bool) (v1 v2 : Value) (xs ys : List Att) (h : decide (xs = ys) = b) (w : World) (hv1 : Arow w v1 xs) (hv2 : Arow w v2 ys) :
    Calls Tryz.prog 26 #[v1, v2] w fun e w' => e = .returned (.bool b) ∧ Below w.heap.size w w' := by subst h; exact rsame5_b v1 v2 xs ys w hv1 hv2
theorem rsame6_f (b : Bool) (v1 v2 : Value) (xs ys : List Chg) (h : decide (xs = ys) = b) (w : World) (hv1 : Crow w v1 xs) (hv2 : Crow w v2 ys) :
    Calls Tryz.prog 27 #[v1, v2] w fun e w' => e = .returned (.bool b) ∧ Below w.heap.size w w' := by subst h; exact rsame6_b v1 v2 xs ys w hv1 hv2

set_option maxHeartbeats 4000000 in
theorem rosame_any (u v : Value) (ys zs : List Oz) (w : World) (hu : Orow w u ys) (hv : Orow w v zs) :
    Calls Tryz.prog 14 #[u, v] w fun e w' => e = .returned (.bool (decide (ys.map Oz.o = zs.map Oz.o))) ∧ Below w.heap.size w w' := by
  have hl1 := hu.len
  have hl2 := hv.len
  obtain ⟨a1, cap1, rfl⟩ := hu.shape
  obtain ⟨a2, cap2, rfl⟩ := hv.shape
  by_cases hl : ys.length = zs.length
  · by_cases h0 : 0 < ys.length
    · obtain ⟨b1, o1, rfl, -, -, -, -, hat1⟩ := hu.row.ats h0
      obtain ⟨b2, o2, rfl, -, -, -, -, hat2⟩ := hv.row.ats (by omega)
      have H1 := Lib.hid hat1
      have H2 := Lib.hid hat2
      have K1 := Lib.hid hu.ok
      have K2 := Lib.hid hv.ok
      have HL := Lib.hid hl
      clear hat1 hat2 hu hv
      rw [← hl]
      clear hl hl2
      go_enter Tryz.func14, Tryz.ntmps14
      go_wp2
      go_loopw [5] (fun i wr => ∃ k : Nat, k ≤ ys.length ∧ i = .int .i64 k ∧ Hid ((ys.take k).map Oz.o = (zs.take k).map Oz.o ∧ Below w.heap.size w wr)) (fun i _ => ys.length - (intOf i).toNat)
      case atStart => exact ⟨0, Nat.zero_le _, rfl, Lib.hid ⟨rfl, Below.refl _ _⟩⟩
      case round =>
        obtain ⟨k, hk, rfl, HP⟩ := hrel
        by_cases hlt : k < ys.length
        · have hlt2 : k < zs.length := by rw [← HL.out]; exact hlt
          have HC := Lib.hid ((H1.out k hlt).below HP.out.2)
          have HD := Lib.hid ((H2.out k hlt2).below HP.out.2)
          have HST := Lib.hid (map_step hlt hlt2 HP.out.1)
          have HBD := Lib.hid (map_bad hlt hlt2)
          have KY := Lib.hid (K1.out _ (List.getElem_mem hlt))
          have KZ := Lib.hid (K2.out _ (List.getElem_mem hlt2))
          have HBR := Lib.hid HP.out.2
          have HLT := Lib.hid hlt
          clear HP
          generalize ys[k] = y at *
          generalize zs[k] = z at *
          have HR := Lib.hid (fun b (h : decide (y.rs = z.rs) = b) W (hb : Below w.heap.size w W) => isame_f b y.rv z.rv y.rs z.rs h W (KY.out.r.below hb) (KZ.out.r.below hb))
          have HS := Lib.hid (fun b (h : decide (y.st = z.st) = b) W (hb : Below w.heap.size w W) => rsame5_f b y.sv z.sv y.st z.st h W (KY.out.s.below hb (Nat.le_refl _)) (KZ.out.s.below hb (Nat.le_refl _)))
          have HP := Lib.hid (fun b (h : decide (y.pt = z.pt) = b) W (hb : Below w.heap.size w W) => rsame6_f b y.pv z.pv y.pt z.pt h W (KY.out.p.below hb (Nat.le_refl _)) (KZ.out.p.below hb (Nat.le_refl _)))
          have HB1 := Lib.hid (below_add HBR.out ((kbelow_two wr (.cells y.cs 56) (.cells z.cs 56)).drew) HBR.out.size)
          have HB2 := Lib.hid (below_add HBR.out ((kbelow_two wr (.cells z.cs 56) (.cells y.cs 56)).drew) HBR.out.size)
          have HX1 := Lib.hid (((OAt.new wr y 56).below (kbelow_one _ (.cells z.cs 56))).below (Below.refl _ _).drew)
          have HY1 := Lib.hid ((OAt.new (wr.alloc (.cells y.cs 56)) z 56).below (Below.refl _ _).drew)
          have HY2 := Lib.hid (((OAt.new wr z 56).below (kbelow_one _ (.cells y.cs 56))).below (Below.refl _ _).drew)
          have HX2 := Lib.hid ((OAt.new (wr.alloc (.cells z.cs 56)) y 56).below (Below.refl _ _).drew)
          rw [World.size_alloc] at HY1 HX2
          have hC0 := HC.out
          have hD0 := HD.out
          clear HC HD H1 H2 K1 K2 KY KZ HL
          go_wp2
          obtain ⟨c0, c1, c2, c3, c4⟩ := hC0
          obtain ⟨d0, d1, d2, d3, d4⟩ := hD0
          have n0 := World.new_ne _ _ c0
          have n1 := World.new_ne _ _ d0
          go_region_held3 (fun w' => OAt b1 (o1 + k * 5) y w' ∧ OAt b2 (o2 + k * 5) z w') ((repeat' apply And.intro) <;> go_keep) (fail)
          · have FX := HX1
            have FY := HY1
            have FB := HB1
            clear HX1 HX2 HY1 HY2 HB1 HB2 c0 c1 c2 c3 c4 d0 d1 d2 d3 d4 n0 n1
            by_cases e1 : y.k = z.k
            rotate_left
            · have HN := Lib.hid (HBD.out (opn_no1 e1))
              have q1 : (y.k == z.k) = false := by simpa using e1
              have q2 : (y.k != z.k) = true := by simpa using e1
              clear e1
              obtain ⟨c0, c1, c2, c3, c4⟩ := FX.out
              obtain ⟨d0, d1, d2, d3, d4⟩ := FY.out
              go_wp2
              go_ret
              exact ⟨dec_no HN.out, FB.out⟩
            have q1 : (y.k == z.k) = true := by simpa using e1
            have q2 : (y.k != z.k) = false := by simpa using e1
            by_cases e2 : y.n = z.n
            rotate_left
            · have HN := Lib.hid (HBD.out (opn_no2 e2))
              have q3 : (y.n == z.n) = false := by simpa using e2
              have q4 : (y.n != z.n) = true := by simpa using e2
              clear e1 e2
              obtain ⟨c0, c1, c2, c3, c4⟩ := FX.out
              obtain ⟨d0, d1, d2, d3, d4⟩ := FY.out
              go_wp2
              go_ret
              exact ⟨dec_no HN.out, FB.out⟩
            have q3 : (y.n == z.n) = true := by simpa using e2
            have q4 : (y.n != z.n) = false := by simpa using e2
            by_cases e3 : y.rs = z.rs
            rotate_left
            · have HN := Lib.hid (HBD.out (opn_no3 e3))
              have F3 := Lib.hid (HR.out false (decide_eq_false e3))
              clear e1 e2 e3
              obtain ⟨c0, c1, c2, c3, c4⟩ := FX.out
              obtain ⟨d0, d1, d2, d3, d4⟩ := FY.out
              clear HR HS HP
              go_wp2_with (first
                | (go_at_call 25; (with_reducible refine (F3.out _ FB.out).mono ?_); rintro e w1 ⟨rfl, hb⟩; have GB := Lib.hid (below_add FB.out hb FB.out.size); obtain ⟨c0, c1, c2, c3, c4⟩ := FX.out.below hb; obtain ⟨d0, d1, d2, d3, d4⟩ := FY.out.below hb; have GX := Lib.hid (FX.out.below hb); have GY := Lib.hid (FY.out.below hb); clear hb))
              go_ret
              exact ⟨dec_no HN.out, GB.out⟩
            have F3 := Lib.hid (HR.out true (decide_eq_true e3))
            by_cases e4 : y.st = z.st
            rotate_left
            · have HN := Lib.hid (HBD.out (opn_no4 e4))
              have F4 := Lib.hid (HS.out false (decide_eq_false e4))
              clear e1 e2 e3 e4
              obtain ⟨c0, c1, c2, c3, c4⟩ := FX.out
              obtain ⟨d0, d1, d2, d3, d4⟩ := FY.out
              clear HR HS HP
              go_wp2_with (first
                | (go_at_call 25; (with_reducible refine (F3.out _ FB.out).mono ?_); rintro e w1 ⟨rfl, hb⟩; have GB := Lib.hid (below_add FB.out hb FB.out.size); obtain ⟨c0, c1, c2, c3, c4⟩ := FX.out.below hb; obtain ⟨d0, d1, d2, d3, d4⟩ := FY.out.below hb; have GX := Lib.hid (FX.out.below hb); have GY := Lib.hid (FY.out.below hb); clear hb)
                | (go_at_call 26; (with_reducible refine (F4.out _ GB.out).mono ?_); rintro e w2 ⟨rfl, hb⟩; have LB := Lib.hid (below_add GB.out hb GB.out.size); obtain ⟨c0, c1, c2, c3, c4⟩ := GX.out.below hb; obtain ⟨d0, d1, d2, d3, d4⟩ := GY.out.below hb; clear hb))
              go_ret
              exact ⟨dec_no HN.out, LB.out⟩
            have F4 := Lib.hid (HS.out true (decide_eq_true e4))
            by_cases e5 : y.pt = z.pt
            rotate_left
            · have HN := Lib.hid (HBD.out (opn_no5 e5))
              have F5 := Lib.hid (HP.out false (decide_eq_false e5))
              clear e1 e2 e3 e4 e5
              obtain ⟨c0, c1, c2, c3, c4⟩ := FX.out
              obtain ⟨d0, d1, d2, d3, d4⟩ := FY.out
              clear HR HS HP
              go_wp2_with (first
                | (go_at_call 25; (with_reducible refine (F3.out _ FB.out).mono ?_); rintro e w1 ⟨rfl, hb⟩; have GB := Lib.hid (below_add FB.out hb FB.out.size); obtain ⟨c0, c1, c2, c3, c4⟩ := FX.out.below hb; obtain ⟨d0, d1, d2, d3, d4⟩ := FY.out.below hb; have GX := Lib.hid (FX.out.below hb); have GY := Lib.hid (FY.out.below hb); clear hb)
                | (go_at_call 26; (with_reducible refine (F4.out _ GB.out).mono ?_); rintro e w2 ⟨rfl, hb⟩; have LB := Lib.hid (below_add GB.out hb GB.out.size); obtain ⟨c0, c1, c2, c3, c4⟩ := GX.out.below hb; obtain ⟨d0, d1, d2, d3, d4⟩ := GY.out.below hb; clear hb)
                | (go_at_call 27; (with_reducible refine (F5.out _ LB.out).mono ?_); rintro e w3 ⟨rfl, hb⟩; have MB := Lib.hid (below_add LB.out hb LB.out.size); clear hb))
              go_ret
              exact ⟨dec_no HN.out, MB.out⟩
            have F5 := Lib.hid (HP.out true (decide_eq_true e5))
            have HN := Lib.hid (HST.out (opn_eq.2 ⟨e1, e2, e3, e4, e5⟩))
            clear e1 e2 e3 e4 e5 HR HS HP
            obtain ⟨c0, c1, c2, c3, c4⟩ := FX.out
            obtain ⟨d0, d1, d2, d3, d4⟩ := FY.out
            go_wp2_with (first
                | (go_at_call 25; (with_reducible refine (F3.out _ FB.out).mono ?_); rintro e w1 ⟨rfl, hb⟩; have GB := Lib.hid (below_add FB.out hb FB.out.size); obtain ⟨c0, c1, c2, c3, c4⟩ := FX.out.below hb; obtain ⟨d0, d1, d2, d3, d4⟩ := FY.out.below hb; have GX := Lib.hid (FX.out.below hb); have GY := Lib.hid (FY.out.below hb); clear hb)
                | (go_at_call 26; (with_reducible refine (F4.out _ GB.out).mono ?_); rintro e w2 ⟨rfl, hb⟩; have LB := Lib.hid (below_add GB.out hb GB.out.size); obtain ⟨c0, c1, c2, c3, c4⟩ := GX.out.below hb; obtain ⟨d0, d1, d2, d3, d4⟩ := GY.out.below hb; clear hb)
                | (go_at_call 27; (with_reducible refine (F5.out _ LB.out).mono ?_); rintro e w3 ⟨rfl, hb⟩; have MB := Lib.hid (below_add LB.out hb LB.out.size); clear hb))
            go_roundw
            case rel => exact ⟨k + 1, HLT.out, by go_num, Lib.hid ⟨HN.out, MB.out⟩⟩
            case measure => have := HLT.out; simp [intOf]; omega
          · have FX := HX2
            have FY := HY2
            have FB := HB2
            clear HX1 HX2 HY1 HY2 HB1 HB2 c0 c1 c2 c3 c4 d0 d1 d2 d3 d4 n0 n1
            by_cases e1 : y.k = z.k
            rotate_left
            · have HN := Lib.hid (HBD.out (opn_no1 e1))
              have q1 : (y.k == z.k) = false := by simpa using e1
              have q2 : (y.k != z.k) = true := by simpa using e1
              clear e1
              obtain ⟨c0, c1, c2, c3, c4⟩ := FX.out
              obtain ⟨d0, d1, d2, d3, d4⟩ := FY.out
              go_wp2
              go_ret
              exact ⟨dec_no HN.out, FB.out⟩
            have q1 : (y.k == z.k) = true := by simpa using e1
            have q2 : (y.k != z.k) = false := by simpa using e1
            by_cases e2 : y.n = z.n
            rotate_left
            · have HN := Lib.hid (HBD.out (opn_no2 e2))
              have q3 : (y.n == z.n) = false := by simpa using e2
              have q4 : (y.n != z.n) = true := by simpa using e2
              clear e1 e2
              obtain ⟨c0, c1, c2, c3, c4⟩ := FX.out
              obtain ⟨d0, d1, d2, d3, d4⟩ := FY.out
              go_wp2
              go_ret
              exact ⟨dec_no HN.out, FB.out⟩
            have q3 : (y.n == z.n) = true := by simpa using e2
            have q4 : (y.n != z.n) = false := by simpa using e2
            by_cases e3 : y.rs = z.rs
            rotate_left
            · have HN := Lib.hid (HBD.out (opn_no3 e3))
              have F3 := Lib.hid (HR.out false (decide_eq_false e3))
              clear e1 e2 e3
              obtain ⟨c0, c1, c2, c3, c4⟩ := FX.out
              obtain ⟨d0, d1, d2, d3, d4⟩ := FY.out
              clear HR HS HP
              go_wp2_with (first
                | (go_at_call 25; (with_reducible refine (F3.out _ FB.out).mono ?_); rintro e w1 ⟨rfl, hb⟩; have GB := Lib.hid (below_add FB.out hb FB.out.size); obtain ⟨c0, c1, c2, c3, c4⟩ := FX.out.below hb; obtain ⟨d0, d1, d2, d3, d4⟩ := FY.out.below hb; have GX := Lib.hid (FX.out.below hb); have GY := Lib.hid (FY.out.below hb); clear hb))
              go_ret
              exact ⟨dec_no HN.out, GB.out⟩
            have F3 := Lib.hid (HR.out true (decide_eq_true e3))
            by_cases e4 : y.st = z.st
            rotate_left
            · have HN := Lib.hid (HBD.out (opn_no4 e4))
              have F4 := Lib.hid (HS.out false (decide_eq_false e4))
              clear e1 e2 e3 e4
              obtain ⟨c0, c1, c2, c3, c4⟩ := FX.out
              obtain ⟨d0, d1, d2, d3, d4⟩ := FY.out
              clear HR HS HP
              go_wp2_with (first
                | (go_at_call 25; (with_reducible refine (F3.out _ FB.out).mono ?_); rintro e w1 ⟨rfl, hb⟩; have GB := Lib.hid (below_add FB.out hb FB.out.size); obtain ⟨c0, c1, c2, c3, c4⟩ := FX.out.below hb; obtain ⟨d0, d1, d2, d3, d4⟩ := FY.out.below hb; have GX := Lib.hid (FX.out.below hb); have GY := Lib.hid (FY.out.below hb); clear hb)
                | (go_at_call 26; (with_reducible refine (F4.out _ GB.out).mono ?_); rintro e w2 ⟨rfl, hb⟩; have LB := Lib.hid (below_add GB.out hb GB.out.size); obtain ⟨c0, c1, c2, c3, c4⟩ := GX.out.below hb; obtain ⟨d0, d1, d2, d3, d4⟩ := GY.out.below hb; clear hb))
              go_ret
              exact ⟨dec_no HN.out, LB.out⟩
            have F4 := Lib.hid (HS.out true (decide_eq_true e4))
            by_cases e5 : y.pt = z.pt
            rotate_left
            · have HN := Lib.hid (HBD.out (opn_no5 e5))
              have F5 := Lib.hid (HP.out false (decide_eq_false e5))
              clear e1 e2 e3 e4 e5
              obtain ⟨c0, c1, c2, c3, c4⟩ := FX.out
              obtain ⟨d0, d1, d2, d3, d4⟩ := FY.out
              clear HR HS HP
              go_wp2_with (first
                | (go_at_call 25; (with_reducible refine (F3.out _ FB.out).mono ?_); rintro e w1 ⟨rfl, hb⟩; have GB := Lib.hid (below_add FB.out hb FB.out.size); obtain ⟨c0, c1, c2, c3, c4⟩ := FX.out.below hb; obtain ⟨d0, d1, d2, d3, d4⟩ := FY.out.below hb; have GX := Lib.hid (FX.out.below hb); have GY := Lib.hid (FY.out.below hb); clear hb)
                | (go_at_call 26; (with_reducible refine (F4.out _ GB.out).mono ?_); rintro e w2 ⟨rfl, hb⟩; have LB := Lib.hid (below_add GB.out hb GB.out.size); obtain ⟨c0, c1, c2, c3, c4⟩ := GX.out.below hb; obtain ⟨d0, d1, d2, d3, d4⟩ := GY.out.below hb; clear hb)
                | (go_at_call 27; (with_reducible refine (F5.out _ LB.out).mono ?_); rintro e w3 ⟨rfl, hb⟩; have MB := Lib.hid (below_add LB.out hb LB.out.size); clear hb))
              go_ret
              exact ⟨dec_no HN.out, MB.out⟩
            have F5 := Lib.hid (HP.out true (decide_eq_true e5))
            have HN := Lib.hid (HST.out (opn_eq.2 ⟨e1, e2, e3, e4, e5⟩))
            clear e1 e2 e3 e4 e5 HR HS HP
            obtain ⟨c0, c1, c2, c3, c4⟩ := FX.out
            obtain ⟨d0, d1, d2, d3, d4⟩ := FY.out
            go_wp2_with (first
                | (go_at_call 25; (with_reducible refine (F3.out _ FB.out).mono ?_); rintro e w1 ⟨rfl, hb⟩; have GB := Lib.hid (below_add FB.out hb FB.out.size); obtain ⟨c0, c1, c2, c3, c4⟩ := FX.out.below hb; obtain ⟨d0, d1, d2, d3, d4⟩ := FY.out.below hb; have GX := Lib.hid (FX.out.below hb); have GY := Lib.hid (FY.out.below hb); clear hb)
                | (go_at_call 26; (with_reducible refine (F4.out _ GB.out).mono ?_); rintro e w2 ⟨rfl, hb⟩; have LB := Lib.hid (below_add GB.out hb GB.out.size); obtain ⟨c0, c1, c2, c3, c4⟩ := GX.out.below hb; obtain ⟨d0, d1, d2, d3, d4⟩ := GY.out.below hb; clear hb)
                | (go_at_call 27; (with_reducible refine (F5.out _ LB.out).mono ?_); rintro e w3 ⟨rfl, hb⟩; have MB := Lib.hid (below_add LB.out hb LB.out.size); clear hb))
            go_roundw
            case rel => exact ⟨k + 1, HLT.out, by go_num, Lib.hid ⟨HN.out, MB.out⟩⟩
            case measure => have := HLT.out; simp [intOf]; omega
        · obtain rfl : k = ys.length := by omega
          have HE := Lib.hid (map_end HL.out HP.out.1)
          have HB := Lib.hid HP.out.2
          clear HP
          go_wp2
          go_ret
          exact ⟨dec_yes HE.out, HB.out⟩
    · obtain rfl : ys = [] := List.eq_nil_of_length_eq_zero (by omega)
      obtain rfl : zs = [] := List.eq_nil_of_length_eq_zero (by simpa using hl.symm)
      clear hu hv h0 hl hl1 hl2
      go_enter Tryz.func14, Tryz.ntmps14
      go_wp2
      refine wp_loop_rounds 1 ?_
      rw [rounds_succ]
      go_wp2
      go_ret
      exact ⟨rfl, Below.refl _ _⟩
  · have HN := Lib.hid (show ¬ ys.map Oz.o = zs.map Oz.o from fun h => hl (by have := congrArg List.length h; simpa using this))
    have e1 : ((ys.length : Int) != (zs.length : Int)) = true := by simp; omega
    clear hu hv
    go_enter Tryz.func14, Tryz.ntmps14
    go_wp2
    go_ret
    exact ⟨dec_no HN.out, Below.refl _ _⟩
end Go.Proofs.YtohgopibimgjfaaGreat

/- N8: ops copied -/
namespace Go.Proofs.YtohgopibimgjfaaGreat
open Go.RowKit
set_option linter.unusedVariables false
set_option maxRecDepth 100000

/-- How much an op may have. -/
structure Sm (z : Oz) : Prop where
  r : z.rs.length ≤ 50331648
  s : z.st.length ≤ 50331648
  p : z.pt.length ≤ 50331648
theorem sm_tot {zs : List Oz} (h : totO zs ≤ 50000000) : zs.length ≤ 50000000 ∧ (∀ z ∈ zs, Sm z) ∧ sumR (zs.map Oz.o) ≤ 50000000 := by
  have : ∀ l : List Oz, l.length ≤ totO l ∧ sumR (l.map Oz.o) ≤ totO l ∧ ∀ z ∈ l, szO z ≤ totO l := fun l => by
    induction l with
    | nil => simp [totO, sumR]
    | cons x r ih =>
      obtain ⟨h1, h2, h3⟩ := ih
      have e : totO (x :: r) = szO x + totO r := by simp [totO]
      have e2 : sumR ((x :: r).map Oz.o) = x.rs.length + sumR (r.map Oz.o) := by simp [sumR, Oz.o]
      have e3 : szO x = 1 + x.rs.length + totA x.st + totC x.pt := rfl
      refine ⟨by rw [List.length_cons, e]; omega, by rw [e, e2]; omega, fun z hz => ?_⟩
      rcases List.mem_cons.1 hz with rfl | hz
      · omega
      · have := h3 z hz; omega
  obtain ⟨h1, h2, h3⟩ := this zs
  refine ⟨by omega, fun z hz => ?_, by omega⟩
  have e3 : szO z = 1 + z.rs.length + totA z.st + totC z.pt := rfl
  have := h3 z hz
  have a1 : z.st.length ≤ totA z.st := by unfold totA; omega
  have a2 : z.pt.length ≤ totC z.pt := by unfold totC; omega
  exact ⟨by omega, by omega, by omega⟩

theorem aclone_any (v : Value) (xs : List Att) (w : World) (hv : Arow w v xs) (hl : xs.length * 48 ≤ 140737488355328) :
    Calls Tryz.prog 114 #[v] w fun e w' => ∃ u, e = .returned u ∧ w'.ownsRow w.heap.size 61 5 u xs.length (fl attC xs) ∧ Below w.heap.size w w' := by
  obtain ⟨i0, hi, hz0, hz1, hz2⟩ := info_at
  have HV := Lib.hid hv
  have hnil := fun a l c w => nil_eql a l c w
  obtain ⟨a, cap, rfl⟩ := hv.shape
  cases a with
  | none =>
    obtain ⟨rfl, rfl⟩ : xs = [] ∧ cap = 0 := by
      rcases hv with ⟨_, _, h, hx, _, h0⟩ | ⟨_, _, _, h, _⟩
      · injection h with h1 _ h3; subst hx; exact ⟨rfl, by rw [h3]; exact h0 h1.symm⟩
      · injection h with h1; cases h1
    clear hv HV
    go_enter Tryz.func114, Tryz.ntmps114
    go_wp2
    go_ret
    exact ⟨_, rfl, World.ownsRow_nil _ _ _ _, Below.refl _ _⟩
  | some a =>
    clear hv
    have hB := (Below.refl w.heap.size w).alloc (Nat.le_refl _) (.cells #[] 61)
    go_enter Tryz.func114, Tryz.ntmps114
    go_wp2_with (at_builtin; refine wpList_append_row (C := attC) rfl (.tmp 5) (.tmp 6) 53 rfl w.heap.size 61 i0 (av noAtt) 48 Tryz.underlying53 hi hz0 hz1 hz2 rfl _ 0 [] rfl (owns_none w 61 5) _ xs rfl (HV.out.below hB (Nat.le_refl _)) (by unfold maxLen; omega) (by omega) (by simp) ?_; intro v3 w3 hown3 hgrow3)
    go_ret
    refine ⟨_, rfl, ?_, hB.grown hgrow3 (by simp) (fun j hj => own_base (owns_none w 61 5) hj)⟩
    have h : w3.ownsRow w.heap.size 61 attC.m v3 (0 + xs.length) ([] ++ fl attC xs) := hown3
    rw [Nat.zero_add, List.nil_append] at h
    exact h

/-- A field of an op's variable turned. -/
theorem box_set {w W : World} {b B j : Nat} {t : TypeId} {cs : Array Value} (hc : Cb b t cs W) (hb : Below B w W) (hb0 : w.heap.size = B) (hB : B ≤ b) (v : Value) :
    Cb b t (cs.setIfInBounds j v) (W.setCell ⟨b, j, none⟩ v) ∧ Below B w (W.setCell ⟨b, j, none⟩ v) ∧ Off (fun k => k = b) W (W.setCell ⟨b, j, none⟩ v) := by
  have hG := grown_set (w := W) (g := b) (o := j) v
  exact ⟨heap_set v hc, hb.grown hG (hb0 ▸ hb.size) (fun k e => by cases e; exact hB), Off.of_grown hG (fun g hg => by cases hg; rfl)⟩
theorem own_set {w w' : World} {B : Nat} {e : TypeId} {size n b : Nat} {v : Value} {xs : List Value} (h : w.ownsRow B e size v n xs) (ho : Off (fun k => k = b) w w') (hb : b < B) : w'.ownsRow B e size v n xs :=
  owns_kept h fun g hg => ho.block g (own_lt7 h hg) (fun hh => by have := own_base h hg; omega)

theorem ap_new' {F : Nat → Prop} {w : World} {zs : List Oz} {z : Oz} (h : ∀ y ∈ zs, OpOwn F w y) (hz : ∀ g, z.rv.ownBlock = some g → w.heap.size ≤ g) : ∀ y ∈ zs, Ap y z := ap_new h hz
theorem op_new {w w' : World} {B B1 B2 B3 : Nat} {k n : Int} {ra sa pa : Option Addr} {rc sc pc : Nat} {rs : List Int} {st : List Att} {pt : List Chg} {b : Nat} (hr : w.ownsRow B1 21 1 (.slice ra rs.length rc) rs.length (rs.map (Value.int .i32))) (hs : w.ownsRow B2 61 5 (.slice sa st.length sc) st.length (fl attC st)) (hp : w.ownsRow B3 63 6 (.slice pa pt.length pc) pt.length (fl chC pt))
    (hB : B ≤ b) (hb : Below w.heap.size w w') (h1 : b ≤ B1) (h2 : b ≤ B2) (h3 : b ≤ B3) : OpOwn (fun g => B ≤ g) w' ⟨k, n, ra, rc, rs, sa, sc, st, pa, pc, pt⟩ :=
  ⟨owns_mono (owns_below hr hb) (Nat.zero_le _), owns_mono (owns_below hs hb) (Nat.zero_le _), owns_mono (owns_below hp hb) (Nat.zero_le _), fun g hg => by have := own_base hr hg; omega, fun g hg => by have := own_base hs hg; omega, fun g hg => by have := own_base hp hg; omega⟩
/-- The loop's state. -/
structure CpR (B : Nat) (w : World) (zs : List Oz) (k : Nat) (v : Value) (wr : World) (ys : List Oz) : Prop where
  own : Oown (fun g => B ≤ g) wr v ys
  eq : ys.map Oz.o = (zs.take k).map Oz.o
  bel : Below w.heap.size w wr
  hi : B ≤ wr.heap.size

theorem CpR.next {B : Nat} {w wr W w4 : World} {zs ys : List Oz} {k g cap : Nat} {v : Value} {z : Oz} (h : CpR B w zs k v wr ys) (hB0 : B = w.heap.size) (hb : Below wr.heap.size wr W) (hz : OpOwn (fun g => B ≤ g) W z) (hn : ∀ q, z.rv.ownBlock = some q → wr.heap.size ≤ q)
    (hg : W.grownBy w4 v.ownBlock) (ho : w4.ownsRow 0 56 5 (.slice (some ⟨g, 0, none⟩) (k + 1) cap) (k + 1) (fl ozC ys ++ ozC.c z)) (hat : v.ownBlock = some g ∨ g = W.heap.size) (hk : ys.length = k) (he : (ys ++ [z]).map Oz.o = (zs.take (k + 1)).map Oz.o) :
    CpR B w zs (k + 1) (.slice (some ⟨g, 0, none⟩) (k + 1) cap) w4 (ys ++ [z]) := by
  have hbw := below_add h.bel hb h.bel.size
  have hsz := hb.size
  have hhi := h.hi
  have hgB : B ≤ g := by
    rcases hat with hh | hh
    · exact h.own.f g hh
    · rw [hh]; omega
  refine ⟨(h.own.below hb).more (fun g hg => hg) hg hz (ap_new' (fun y hy => h.own.own y hy) hn) (by rw [hk]; exact ho) (fun q hq => ?_), he, hbw.grown hg hbw.size (fun q hq => ?_), Nat.le_trans (by omega) hg.size⟩
  · injection hq with hq; subst hq; exact hgB
  · rw [← hB0]; exact h.own.f q hq

set_option maxHeartbeats 4000000 in
theorem ocopy_any (u : Value) (zs : List Oz) (w : World) (hu : Orow w u zs) (hl : zs.length ≤ 50331648) (hz : ∀ z ∈ zs, Sm z) :
    Calls Tryz.prog 77 #[u] w fun e w' => ∃ v ys, e = .returned v ∧ ys.map Oz.o = zs.map Oz.o ∧ Oown (fun g => w.heap.size ≤ g) w' v ys ∧ Below w.heap.size w w' := by
  obtain ⟨i0, hi, hz0, hz1, hz2⟩ := info_op
  have HU := Lib.hid hu
  obtain ⟨a1, cap1, rfl⟩ := hu.shape
  go_enter Tryz.func77, Tryz.ntmps77
  go_wp2_with (at_make; refine wpList_make_own _ rfl (.const (.int .i64 0)) (.tmp 7) 23 rfl w.heap.size 56 i0 _ 5 Tryz.underlying23 hi hz0 hz1 .i64 .i64 _ zs.length rfl rfl rfl (by rw [hz2]; omega) (by unfold maxLen; omega) (Nat.le_refl _) ?_; intro w0 hown0 hgrow0)
  have HB0 := Lib.hid (show Below w.heap.size w w0 from (Below.refl _ _).grown hgrow0 (Nat.le_refl _) (fun k e => by cases e))
  have HS := Lib.hid (show CpR w.heap.size w zs 0 (.slice (some ⟨w.heap.size, 0, none⟩) 0 zs.length) w0 [] from ⟨⟨owns_mono hown0 (Nat.zero_le _), fun g hg => own_base hown0 hg, by simp, List.Pairwise.nil⟩, rfl, HB0.out, HB0.out.size⟩)
  clear hown0 hgrow0 HB0
  go_loopw [3, 11] (fun s3 s11 wr => ∃ (k : Nat) (a : Option Addr) (c : Nat) (ys : List Oz), k ≤ zs.length ∧ ys.length = k ∧ s3 = .slice a k c ∧ s11 = .int .i64 k ∧ Hid (CpR w.heap.size w zs k (.slice a k c) wr ys)) (fun _ s11 _ => zs.length - (intOf s11).toNat)
  case atStart => exact ⟨0, _, _, [], Nat.zero_le _, rfl, rfl, rfl, HS⟩
  case round =>
    clear HS
    obtain ⟨k, va, vc, ys, hk, hyl, rfl, rfl, HR⟩ := hrel
    by_cases hlt : k < zs.length
    · have hlt1 : 0 < zs.length := by omega
      obtain ⟨b1, o1, rfl, -, -, -, -, hat⟩ := HU.out.row.ats hlt1
      have hoat := (hat k hlt).below HR.out.bel
      have hok := (HU.out.ok _ (List.getElem_mem hlt)).below HR.out.bel
      have hsm := hz _ (List.getElem_mem hlt)
      have HEQ := Lib.hid (show ∀ y : Oz, y.o = zs[k].o → (ys ++ [y]).map Oz.o = (zs.take (k + 1)).map Oz.o from fun y he => by rw [tsnoc hlt, List.map_append, List.map_append, HR.out.eq, List.map_singleton, List.map_singleton, he])
      clear hat hu
      generalize zs[k] = z at *
      have HLT := Lib.hid hlt
      have HW0 := Lib.hid (kbelow_one wr (.cells z.cs 56))
      have HCB := Lib.hid (cb_new wr 56 z.cs)
      have hwb : w.heap.size ≤ wr.heap.size := HR.out.hi
      have HF1 := Lib.hid (fun W (hb : Below wr.heap.size wr W) => iclone_any z.rv z.rs W (hok.r.below hb) (by have := hsm.r; omega))
      have HF2 := Lib.hid (fun W (hb : Below wr.heap.size wr W) => aclone_any z.sv z.st W (hok.s.below hb (Nat.le_refl _)) (by have := hsm.s; omega))
      have HF3 := Lib.hid (fun W (hb : Below wr.heap.size wr W) => clone_any6 z.pv z.pt W (hok.p.below hb (Nat.le_refl _)) (by have := hsm.p; omega))
      obtain ⟨zk, zn, zra, zrc, zrs, zsa, zsc, zst, zpa, zpc, zpt⟩ := z
      obtain ⟨c0, c1, c2, c3, c4⟩ := hoat
      simp only [Oz.rv, Oz.sv, Oz.pv, Oz.cs] at HF1 HF2 HF3 HW0 HCB c0 c1 c2 c3 c4
      have HYL := Lib.hid hyl
      have HROW := Lib.hid (fun W (hb : Below wr.heap.size wr W) => (show W.ownsRow 0 56 5 (.slice va k vc) k (fl ozC ys) from by have := (HR.out.own.below hb).row; rwa [hyl] at this))
      have HWB := Lib.hid hwb
      clear hok hsm hyl hwb hz hlt1
      go_wp2_with (first
        | (go_at_call 113; (with_reducible refine (HF1.out _ HW0.out).mono ?_); rintro e w1 ⟨u1, rfl, ho1, hb1⟩; obtain ⟨ra, rc, rfl, -, -⟩ := own_shape ho1; have C1 := HCB.out.below hb1; have f0 : w1.cell? ⟨wr.heap.size, 2, none⟩ = some (.slice zra zrs.length zrc) := C1.cell 2; have f1 : w1.frozen? ⟨wr.heap.size, 2, none⟩ = false := C1.frozen 2; obtain ⟨D1, E1, O1⟩ := box_set (j := 2) C1 (below_add HW0.out hb1 HW0.out.size) rfl (Nat.le_refl _) (.slice ra zrs.length rc); have R1 := own_set ho1 O1 (by simp); have g0 : (w1.setCell ⟨wr.heap.size, 2, none⟩ (.slice ra zrs.length rc)).cell? ⟨wr.heap.size, 3, none⟩ = some (.slice zsa zst.length zsc) := D1.cell 3; have HD1 := Lib.hid D1; have HE1 := Lib.hid E1; have HR1 := Lib.hid R1; clear hb1 ho1 C1 D1 E1 O1 R1)
        | (go_at_call 114; (with_reducible refine (HF2.out _ HE1.out).mono ?_); rintro e w2 ⟨u2, rfl, ho2, hb2⟩; obtain ⟨sa, sc, rfl, -, -⟩ := own_shape ho2; have C2 := HD1.out.below hb2; have f2 : w2.cell? ⟨wr.heap.size, 3, none⟩ = some (.slice zsa zst.length zsc) := C2.cell 3; have f3 : w2.frozen? ⟨wr.heap.size, 3, none⟩ = false := C2.frozen 3; obtain ⟨D2, E2, O2⟩ := box_set (j := 3) C2 (below_add HE1.out hb2 HE1.out.size) rfl (Nat.le_refl _) (.slice sa zst.length sc); have R2 := own_set (owns_below HR1.out hb2) O2 (by simp); have S2 := own_set ho2 O2 HD1.out.lt; have g1 : (w2.setCell ⟨wr.heap.size, 3, none⟩ (.slice sa zst.length sc)).cell? ⟨wr.heap.size, 4, none⟩ = some (.slice zpa zpt.length zpc) := D2.cell 4; have HD2 := Lib.hid D2; have HE2 := Lib.hid E2; have HR2 := Lib.hid R2; have HS2 := Lib.hid S2; clear hb2 ho2 C2 D2 E2 O2 R2 S2)
        | (go_at_call 115; (with_reducible refine (HF3.out _ HE2.out).mono ?_); rintro e w3 ⟨u3, rfl, ho3, hb3⟩; obtain ⟨pa, pc, rfl, -, -⟩ := own_shape ho3; have C3 := HD2.out.below hb3; have f4 : w3.cell? ⟨wr.heap.size, 4, none⟩ = some (.slice zpa zpt.length zpc) := C3.cell 4; have f5 : w3.frozen? ⟨wr.heap.size, 4, none⟩ = false := C3.frozen 4; obtain ⟨D3, E3, O3⟩ := box_set (j := 4) C3 (below_add HE2.out hb3 HE2.out.size) rfl (Nat.le_refl _) (.slice pa zpt.length pc); have R3 := own_set (owns_below HR2.out hb3) O3 (by simp); have S3 := own_set (owns_below HS2.out hb3) O3 HD1.out.lt; have P3 := own_set ho3 O3 HD2.out.lt; have HD3 := Lib.hid D3; have HE3 := Lib.hid E3; have HR3 := Lib.hid R3; have HS3 := Lib.hid S3; have HP3 := Lib.hid P3; obtain ⟨W3, hW3⟩ : ∃ W, w3.setCell ⟨wr.heap.size, 4, none⟩ (.slice pa zpt.length pc) = W := ⟨_, rfl⟩; rw [hW3] at HD3 HE3 HR3 HS3 HP3; have k0 : W3.cell? ⟨wr.heap.size, 0, none⟩ = some (.int .u8 zk) := HD3.out.cell 0; have k1 : W3.cell? ⟨wr.heap.size, 1, none⟩ = some (.int .i64 zn) := HD3.out.cell 1; have k2 : W3.cell? ⟨wr.heap.size, 2, none⟩ = some (.slice ra zrs.length rc) := HD3.out.cell 2; have k3 : W3.cell? ⟨wr.heap.size, 3, none⟩ = some (.slice sa zst.length sc) := HD3.out.cell 3; have k4 : W3.cell? ⟨wr.heap.size, 4, none⟩ = some (.slice pa zpt.length pc) := HD3.out.cell 4; have HOW := Lib.hid (HROW.out _ (below_add HE3.out (kbelow_one W3 (.cells (opcs zk zn ra zrs.length rc sa zst.length sc pa zpt.length pc) 56)) HE3.out.size)); have HBW := Lib.hid (below_add HE3.out (kbelow_one W3 (.cells (opcs zk zn ra zrs.length rc sa zst.length sc pa zpt.length pc) 56)) HE3.out.size); have HZO := Lib.hid (op_new (k := zk) (n := zn) HR3.out HS3.out HP3.out HWB.out (kbelow_one W3 (.cells (opcs zk zn ra zrs.length rc sa zst.length sc pa zpt.length pc) 56)) (by simp) (Nat.le_of_lt HD1.out.lt) (Nat.le_of_lt HD2.out.lt)); have HZN := Lib.hid (fun q (hq : (Value.slice ra zrs.length rc).ownBlock = some q) => (by have h9 := own_base HR3.out hq; rw [World.size_alloc] at h9; omega : wr.heap.size ≤ q)); clear hb3 ho3 C3 D3 E3 O3 R3 S3 P3)
        | (at_builtin; refine wpList_append_lies _ rfl (.tmp 27) (.tmp 29) 23 rfl 0 56 i0 _ 5 88 Tryz.underlying23 hi hz0 hz1 hz2 rfl (by decide) _ k (fl ozC ys) rfl HOW.out ⟨W3.heap.size, 0, none⟩ 1 1 (ozC.c ⟨zk, zn, ra, rc, zrs, sa, sc, zst, pa, pc, zpt⟩) rfl rfl (World.news_of_block (heap_alloc_new _ _)) (ozC.one _) (by decide) (by unfold maxLen; omega) (by omega) (Nat.zero_le _) _ rfl ?_; intro g cap w4 hown4 hgrow4 hat4 hlt4))
      go_roundw
      case rel => exact ⟨k + 1, _, _, _, HLT.out, by rw [List.length_append, HYL.out]; rfl, rfl, by go_num, Lib.hid (HR.out.next rfl HBW.out HZO.out HZN.out hgrow4 hown4 hat4 HYL.out (HEQ.out _ rfl))⟩
      case measure => have := HLT.out; simp [intOf]; omega
    · obtain rfl : k = zs.length := by omega
      go_wp2
      go_ret
      have hq := HR.out.eq
      rw [List.take_length] at hq
      exact ⟨_, ys, rfl, hq, HR.out.own, HR.out.bel⟩
end Go.Proofs.YtohgopibimgjfaaGreat
