
import Derived.Test.YtoppgdhidnpibaaKI
import Derived.Deep.Slices
import Derived.Deep.Fields
import Derived.ChangeArms
import Derived.ChangeSame
import Derived.ChangeMaps5
import Derived.Lib.SmallJoins
import Derived.OpenShut
/- KU: calls that came in: a row of them, and one by value -/
namespace Go.Proofs.Ytoppgdhidnpibaa
open Go.RowKit Go.ChangeShapes Go.WideShapes Go.Deep
set_option linter.unusedVariables false

/-- A call as it is laid; a call as plain data. -/
structure OpV where
  k : Int
  i : Int
  j : Int
  a : Option Addr
  l : Nat
  c : Nat
  b : Int
  p : Int
structure OpL where
  k : Int
  i : Int
  j : Int
  x : List Rw
  b : Int
  p : Int
def OpV.s (o : OpV) : Value := .slice o.a o.l o.c
def opC : Cel OpV := ⟨fun o => [.int .i64 o.k, .int .i64 o.i, .int .i64 o.j, o.s, .int .i64 o.b, .int .i64 o.p], 6, fun _ => rfl, fun o u hu => by
  simp only [List.mem_cons, List.not_mem_nil, or_false] at hu
  rcases hu with rfl | rfl | rfl | rfl | rfl | rfl <;> rfl, by decide⟩
def OpV.l' (o : OpV) (xs : List Rw) : OpL := ⟨o.k, o.i, o.j, xs, o.b, o.p⟩
/-- A call as one value. -/
def opA (o : OpV) : Value := .agg (opC.c o).toArray
/-- A slice of calls that reads as ls. -/
def Orow (w : World) (v : Value) (ls : List OpL) : Prop := ∃ (ss : List OpV) (f : OpV → List Rw), Row opC w v ss ∧ ls = ss.map (fun o => o.l' (f o)) ∧ ∀ o ∈ ss, Row RwC w o.s (f o)
theorem Orow.shape {w : World} {v : Value} {ls : List OpL} (h : Orow w v ls) : ∃ a cap, v = .slice a ls.length cap := by
  obtain ⟨ss, f, h1, rfl, -⟩ := h
  obtain ⟨a, cap, rfl⟩ := h1.shape
  exact ⟨a, cap, by simp⟩
theorem Orow.len {w : World} {v : Value} {ls : List OpL} (h : Orow w v ls) : ls.length ≤ 9223372036854775807 := by
  obtain ⟨ss, f, h1, rfl, -⟩ := h
  have := h1.len
  simpa using this
theorem Orow.below {w w' : World} {v : Value} {ls : List OpL} (h : Orow w v ls) (hb : Below w.heap.size w w') : Orow w' v ls := by
  obtain ⟨ss, f, h1, h2, h3⟩ := h
  exact ⟨ss, f, h1.below hb (Nat.le_refl _), h2, fun o ho => (h3 o ho).below hb (Nat.le_refl _)⟩
theorem Orow.opn {w : World} {a : Option Addr} {n cap : Nat} {ls : List OpL} (h : Orow w (.slice a n cap) ls) (h0 : 0 < ls.length) :
    ∃ b off, a = some ⟨b, off, none⟩ ∧ n = ls.length ∧ ls.length ≤ cap ∧ cap ≤ maxLen ∧ b < w.heap.size ∧ (∀ j (hj : j < ls.length), ∃ xa xc,
      w.cell? ⟨b, off + j * 6, none⟩ = some (.int .i64 ls[j].k) ∧ w.cell? ⟨b, off + j * 6 + 1, none⟩ = some (.int .i64 ls[j].i) ∧ w.cell? ⟨b, off + j * 6 + 2, none⟩ = some (.int .i64 ls[j].j) ∧ w.cell? ⟨b, off + j * 6 + 3, none⟩ = some (.slice xa ls[j].x.length xc) ∧ w.cell? ⟨b, off + j * 6 + 4, none⟩ = some (.int .i64 ls[j].b) ∧ w.cell? ⟨b, off + j * 6 + 5, none⟩ = some (.int .i64 ls[j].p) ∧ Row RwC w (.slice xa ls[j].x.length xc) ls[j].x) := by
  obtain ⟨ss, f, h1, rfl, h3⟩ := h
  rw [List.length_map] at h0
  obtain ⟨b, off, ha, hn, hc, hm, hb, hat, -⟩ := Row.opened h1 h0
  refine ⟨b, off, ha, by rw [List.length_map]; exact hn, by rw [List.length_map]; exact hc, hm, hb, fun j hj => ?_⟩
  have hj' : j < ss.length := by simpa using hj
  have hr := h3 ss[j] (List.getElem_mem hj')
  have c0 := hat j hj' 0 _ rfl
  have c1 := hat j hj' 1 _ rfl
  have c2 := hat j hj' 2 _ rfl
  have c3 := hat j hj' 3 _ rfl
  have c4 := hat j hj' 4 _ rfl
  have c5 := hat j hj' 5 _ rfl
  rw [List.getElem_map]
  obtain ⟨xa, xc, e⟩ := hr.shape
  rw [e] at hr c3
  exact ⟨xa, xc, c0, c1, c2, c3, c4, c5, hr⟩
section
variable {H : Type} {enc : TypeId × Value → H} {w : World} {base : Nat} {spare : Nat → Bool} {held : Bool}
/-- A slice that came in, whatever its elements are. -/
theorem open_rowP {α : Type} (C : Cel α) (P : α → Prop) {t e : TypeId} (ht : Try.prog.underlying t = some (.slice e)) (hce : Try.prog.cellsOf e = C.m)
    (hel : ∀ (n : Nat) (cs : List Value) (y : DataW H × List MemPlace), DataW.trod enc Try.prog w base spare held n e cs = some y → ∃ x, P x ∧ cs = C.c x)
    {n : Nat} {v : Value} {x : DataW H × List MemPlace} (h : DataW.trod enc Try.prog w base spare held n t [v] = some x) : ∃ xs, Row C w v xs ∧ ∀ a ∈ xs, P a := by
  rcases open_slice ht h with ⟨hcs, -⟩ | ⟨a, len, cap, m, n', D, Pl, hcs, -, hl, hm, hmm, hx, hi⟩
  · injection hcs with hv _
    subst hv
    exact ⟨[], Row.nil w, by simp⟩
  · injection hcs with hv _
    subst hv
    have hlm : len ≤ m := by rw [hmm]; split <;> omega
    have hex : ∀ i : Fin len, ∃ k : α, P k ∧ ∀ j u, (C.c k)[j]? = some u → w.cell? (a.add (i.1 * C.m + j)) = some u := by
      rintro ⟨i, hil⟩
      obtain ⟨cs', hc, ht⟩ := hi i (by omega)
      obtain ⟨k, hw, rfl⟩ := hel _ _ _ ht
      rw [hce] at hc
      obtain ⟨-, hcl, hat⟩ := World.cells?_some hc
      refine ⟨k, hw, fun j u hu => ?_⟩
      have hj : j < C.m := by have := (List.getElem?_eq_some_iff.1 hu).1; rwa [C.len] at this
      have := hat j hj
      rw [hu, add_add] at this
      exact this
    obtain ⟨f, hf⟩ := Classical.axiomOfChoice hex
    have hlen : (List.ofFn f).length = len := by simp
    refine ⟨List.ofFn f, ?_, fun k hk => ?_⟩
    · by_cases h0 : len = 0
      · subst h0
        exact .inl ⟨some a, cap, rfl, by simp, hm, by simp⟩
      · obtain ⟨b, off, spot⟩ := a
        have hp : 0 < (C.c (f ⟨0, by omega⟩)).length := by rw [C.len]; exact C.pos
        have hspot : spot = none := by
          have := (hf ⟨0, by omega⟩).2 0 _ (List.getElem?_eq_getElem hp)
          simpa [Addr.add] using World.cell?_spot this
        subst hspot
        refine .inr ⟨b, off, cap, by rw [hlen], by omega, by omega, hm, fun j u hu => ?_⟩
        have hjl : j < len * C.m := by
          have := (List.getElem?_eq_some_iff.1 hu).1
          rwa [fl_len, hlen] at this
        have e1 : j / C.m * C.m + j % C.m = j := by rw [Nat.mul_comm]; exact Nat.div_add_mod j C.m
        have hd : j / C.m < len := by rw [Nat.div_lt_iff_lt_mul C.pos]; exact hjl
        have g := fl_get C (List.ofFn f) (j / C.m) (j % C.m) (by omega) (Nat.mod_lt _ C.pos)
        rw [e1, hu] at g
        have := (hf ⟨j / C.m, hd⟩).2 (j % C.m) u (by rw [g]; simp)
        rw [e1, Go.WideShapes.add_plain] at this
        exact this
    · obtain ⟨i, rfl⟩ := List.mem_ofFn.1 hk
      exact (hf i).1

theorem sp_fields : Try.prog.underlying 44 = some (.struct (Try.prog.fieldsOf 44)) := by kernel_rfl
theorem sp_one : oneCellFields Try.prog (Try.prog.fieldsOf 44) = true := by kernel_rfl
theorem sp_cells : Try.prog.cellsOf 44 = 2 := by kernel_rfl
theorem sp_types : (Try.prog.fieldsOf 44).map (·.type) = #[3, 3] := by kernel_rfl
theorem sp_size11 : (Try.prog.fieldsOf 44).size = 2 := by kernel_rfl
set_option maxRecDepth 100000 in
theorem open_span {n : Nat} {cs : List Value} {y : DataW H × List MemPlace} (h : DataW.trod enc Try.prog w base spare held n 44 cs = some y) : ∃ o : Rw, True ∧ cs = RwC.c o := by
  obtain ⟨ys, m, -, hy, hlen, hys, hf⟩ := DataW.trod_struct sp_fields h
  rw [sp_cells] at hlen
  rw [sp_size11] at hys
  have hj : ∀ (j : Nat) (t : TypeId), (#[3, 3] : Array TypeId)[j]? = some t → DataW.trod enc Try.prog w base spare held m t ((cs.drop j).take 1) = ys[j]? := by
    intro j t hjt
    rw [← sp_types, Array.getElem?_map, Option.map_eq_some_iff] at hjt
    obtain ⟨f, hfj, rfl⟩ := hjt
    obtain ⟨ho, hk⟩ := hone_of sp_one j f hfj
    have := hf j f hfj
    rwa [ho, hk] at this
  clear hf h
  match cs, hlen with
  | [c0, c1], _ =>
    match ys, hys with
    | [y0, y1], _ =>
      have h0 : DataW.trod enc Try.prog w base spare held m 3 [c0] = some y0 := hj 0 _ rfl
      have h1 : DataW.trod enc Try.prog w base spare held m 3 [c1] = some y1 := hj 1 _ rfl
      obtain ⟨a0, e0, rfl, w0⟩ := DataW.trod_int Try.underlying3 h0
      obtain ⟨a1, e1, rfl, w1⟩ := DataW.trod_int Try.underlying3 h1
      simp only [List.cons.injEq, and_true] at e0 e1
      subst e0 e1
      exact ⟨⟨a0, a1⟩, trivial, rfl⟩
theorem open_spans {n : Nat} {v : Value} {x : DataW H × List MemPlace} (h : DataW.trod enc Try.prog w base spare held n 22 [v] = some x) : ∃ xs, Row RwC w v xs := by
  obtain ⟨xs, h1, -⟩ := open_rowP RwC (fun _ => True) Try.underlying22 sp_cells (fun n cs y hy => open_span hy) h
  exact ⟨xs, h1⟩
theorem op_fields : Try.prog.underlying 24 = some (.struct (Try.prog.fieldsOf 24)) := by kernel_rfl
theorem op_one : oneCellFields Try.prog (Try.prog.fieldsOf 24) = true := by kernel_rfl
theorem op_cells : Try.prog.cellsOf 24 = 6 := by kernel_rfl
theorem op_types : (Try.prog.fieldsOf 24).map (·.type) = #[3, 3, 3, 22, 3, 3] := by kernel_rfl
theorem op_size : (Try.prog.fieldsOf 24).size = 6 := by kernel_rfl
set_option maxRecDepth 100000 in
theorem open_op {n : Nat} {cs : List Value} {y : DataW H × List MemPlace} (h : DataW.trod enc Try.prog w base spare held n 24 cs = some y) : ∃ o : OpV, (∃ xs, Row RwC w o.s xs) ∧ cs = opC.c o := by
  obtain ⟨ys, m, -, hy, hlen, hys, hf⟩ := DataW.trod_struct op_fields h
  rw [op_cells] at hlen
  rw [op_size] at hys
  have hj : ∀ (j : Nat) (t : TypeId), (#[3, 3, 3, 22, 3, 3] : Array TypeId)[j]? = some t → DataW.trod enc Try.prog w base spare held m t ((cs.drop j).take 1) = ys[j]? := by
    intro j t hjt
    rw [← op_types, Array.getElem?_map, Option.map_eq_some_iff] at hjt
    obtain ⟨f, hfj, rfl⟩ := hjt
    obtain ⟨ho, hk⟩ := hone_of op_one j f hfj
    have := hf j f hfj
    rwa [ho, hk] at this
  clear hf h
  match cs, hlen with
  | [c0, c1, c2, c3, c4, c5], _ =>
    match ys, hys with
    | [y0, y1, y2, y3, y4, y5], _ =>
      have h0 : DataW.trod enc Try.prog w base spare held m 3 [c0] = some y0 := hj 0 _ rfl
      have h1 : DataW.trod enc Try.prog w base spare held m 3 [c1] = some y1 := hj 1 _ rfl
      have h2 : DataW.trod enc Try.prog w base spare held m 3 [c2] = some y2 := hj 2 _ rfl
      have h3 : DataW.trod enc Try.prog w base spare held m 22 [c3] = some y3 := hj 3 _ rfl
      have h4 : DataW.trod enc Try.prog w base spare held m 3 [c4] = some y4 := hj 4 _ rfl
      have h5 : DataW.trod enc Try.prog w base spare held m 3 [c5] = some y5 := hj 5 _ rfl
      obtain ⟨a0, e0, rfl, w0⟩ := DataW.trod_int Try.underlying3 h0
      obtain ⟨a1, e1, rfl, w1⟩ := DataW.trod_int Try.underlying3 h1
      obtain ⟨a2, e2, rfl, w2⟩ := DataW.trod_int Try.underlying3 h2
      obtain ⟨a4, e4, rfl, w4⟩ := DataW.trod_int Try.underlying3 h4
      obtain ⟨a5, e5, rfl, w5⟩ := DataW.trod_int Try.underlying3 h5
      obtain ⟨xs, q1⟩ := open_spans h3
      simp only [List.cons.injEq, and_true] at e0 e1 e2 e4 e5
      subst e0 e1 e2 e4 e5
      obtain ⟨a, cap, rfl⟩ := q1.shape
      exact ⟨⟨a0, a1, a2, a, xs.length, cap, a4, a5⟩, ⟨xs, q1⟩, rfl⟩
/-- A slice of calls that came in. -/
theorem open_ops {n : Nat} {v : Value} {x : DataW H × List MemPlace} (h : DataW.trod enc Try.prog w base spare held n 46 [v] = some x) : ∃ ls : List OpL, Orow w v ls := by
  obtain ⟨ss, h1, h2⟩ := open_rowP opC (fun o => ∃ xs, Row RwC w o.s xs) Try.underlying46 op_cells (fun n cs y hy => open_op hy) h
  have hch : ∀ o : OpV, ∃ xs : List Rw, o ∈ ss → Row RwC w o.s xs := fun o => by
    by_cases ho : o ∈ ss
    · obtain ⟨xs, q⟩ := h2 o ho
      exact ⟨xs, fun _ => q⟩
    · exact ⟨[], fun hc => absurd hc ho⟩
  obtain ⟨f, hf⟩ := Classical.axiomOfChoice hch
  exact ⟨_, ss, f, h1, rfl, hf⟩
end
end Go.Proofs.Ytoppgdhidnpibaa
