
import Derived.Test.YtiobcifpebehnaaDoorA2
import Derived.Deep.Slices
import Derived.Deep.Fields
import Derived.ChangeArms
import Derived.ChangeSame
import Derived.ChangeMaps5
import Derived.Lib.SmallJoins
import Derived.OpenShut
/- A18: attributes, and slices of them, that came in -/
namespace Go.Proofs.YtiobcifpebehnaaDoor
open Go.RowKit Go.ChangeShapes Go.WideShapes Go.Deep
set_option linter.unusedVariables false

section
variable {H : Type} {enc : TypeId × Value → H} {w : World} {base : Nat} {spare : Nat → Bool} {held : Bool}

theorem att_fields : Tryd.prog.underlying 47 = some (.struct (Tryd.prog.fieldsOf 47)) := by kernel_rfl
theorem att_cells : Tryd.prog.cellsOf 47 = 5 := by kernel_rfl
theorem att_types : (Tryd.prog.fieldsOf 47).map (fun f => (f.type, f.offset)) = #[(3, 0), (45, 1)] := by kernel_rfl
theorem att_size : (Tryd.prog.fieldsOf 47).size = 2 := by kernel_rfl
theorem int_cells5 : Tryd.prog.cellsOf 3 = 1 := by kernel_rfl
theorem value_cells5 : Tryd.prog.cellsOf 45 = 4 := by kernel_rfl
theorem value_fields5 : Tryd.prog.underlying 45 = some (.struct (Tryd.prog.fieldsOf 45)) := by kernel_rfl
theorem value_one5 : oneCellFields Tryd.prog (Tryd.prog.fieldsOf 45) = true := by kernel_rfl
theorem value_types5 : (Tryd.prog.fieldsOf 45).map (·.type) = #[5, 2, 43, 9] := by kernel_rfl
theorem value_size5 : (Tryd.prog.fieldsOf 45).size = 4 := by kernel_rfl

set_option maxRecDepth 100000 in
/-- A value's four cells, from what was read of it. -/
theorem open_val5 {n : Nat} {cs : List Value} {y : DataW H × List MemPlace} (h : DataW.trod enc Tryd.prog w base spare held n 45 cs = some y) :
    ∃ (k n' f : Int) (s : ByteArray), (Lit.int .u8 k).wf = true ∧ (Lit.int .i64 n').wf = true ∧ (Lit.int .u64 f).wf = true ∧ s.size ≤ maxLen ∧ cs = [.int .u8 k, .int .i64 n', .int .u64 f, .string s] := by
  obtain ⟨ys, m, -, -, hlen, hys, hf⟩ := DataW.trod_struct value_fields5 h
  rw [value_cells5] at hlen
  rw [value_size5] at hys
  have hj : ∀ (j : Nat) (t : TypeId), (#[5, 2, 43, 9] : Array TypeId)[j]? = some t → DataW.trod enc Tryd.prog w base spare held m t ((cs.drop j).take 1) = ys[j]? := by
    intro j t hjt
    rw [← value_types5, Array.getElem?_map, Option.map_eq_some_iff] at hjt
    obtain ⟨f, hfj, rfl⟩ := hjt
    obtain ⟨ho, hk⟩ := hone_of value_one5 j f hfj
    have := hf j f hfj
    rwa [ho, hk] at this
  clear hf h
  match cs, hlen with
  | [c0, c1, c2, c3], _ =>
    match ys, hys with
    | [y0, y1, y2, y3], _ =>
      have h0 : DataW.trod enc Tryd.prog w base spare held m 5 [c0] = some y0 := hj 0 _ rfl
      have h1 : DataW.trod enc Tryd.prog w base spare held m 2 [c1] = some y1 := hj 1 _ rfl
      have h2 : DataW.trod enc Tryd.prog w base spare held m 43 [c2] = some y2 := hj 2 _ rfl
      have h3 : DataW.trod enc Tryd.prog w base spare held m 9 [c3] = some y3 := hj 3 _ rfl
      obtain ⟨a0, e0, -, w0⟩ := DataW.trod_int Tryd.underlying5 h0
      obtain ⟨a1, e1, -, w1⟩ := DataW.trod_int Tryd.underlying2 h1
      obtain ⟨a2, e2, -, w2⟩ := DataW.trod_int Tryd.underlying43 h2
      obtain ⟨a3, e3, -, w3⟩ := DataW.trod_string Tryd.underlying9 h3
      simp only [List.cons.injEq, and_true] at e0 e1 e2 e3
      subst e0 e1 e2 e3
      exact ⟨a0, a1, a2, a3, w0, w1, w2, w3, rfl⟩

set_option maxRecDepth 100000 in
/-- An attribute's five cells, from what was read of it. -/
theorem open_att {n : Nat} {cs : List Value} {y : DataW H × List MemPlace} (h : DataW.trod enc Tryd.prog w base spare held n 47 cs = some y) : ∃ a : Att, AttW a ∧ cs = ac a := by
  obtain ⟨ys, m, -, -, hlen, hys, hf⟩ := DataW.trod_struct att_fields h
  rw [att_cells] at hlen
  rw [att_size] at hys
  have hj : ∀ (j : Nat) (t : TypeId) (o : Nat), (#[(3, 0), (45, 1)] : Array (TypeId × Nat))[j]? = some (t, o) → DataW.trod enc Tryd.prog w base spare held m t ((cs.drop o).take (Tryd.prog.cellsOf t)) = ys[j]? := by
    intro j t o hjt
    rw [← att_types, Array.getElem?_map, Option.map_eq_some_iff] at hjt
    obtain ⟨f, hfj, e⟩ := hjt
    simp only [Prod.mk.injEq] at e
    obtain ⟨rfl, rfl⟩ := e
    exact hf j f hfj
  clear hf h
  match cs, hlen with
  | [c0, c1, c2, c3, c4], _ =>
    match ys, hys with
    | [y0, y1], _ =>
      have h0 := hj 0 3 0 rfl
      have h1 := hj 1 45 1 rfl
      rw [int_cells5] at h0
      rw [value_cells5] at h1
      have h0' : DataW.trod enc Tryd.prog w base spare held m 3 [c0] = some y0 := h0
      have h1' : DataW.trod enc Tryd.prog w base spare held m 45 [c1, c2, c3, c4] = some y1 := h1
      obtain ⟨a0, e0, -, w0⟩ := DataW.trod_int Tryd.underlying3 h0'
      obtain ⟨k, n', f, s, w1, w2, w3, w4, e1⟩ := open_val5 h1'
      simp only [List.cons.injEq, and_true] at e0 e1
      obtain ⟨rfl, rfl, rfl, rfl⟩ := e1
      subst e0
      exact ⟨⟨a0, k, n', f, s⟩, ⟨w0, w1, w2, w3, w4⟩, rfl⟩

set_option maxRecDepth 100000 in
/-- A slice of attributes that came in. -/
theorem open_atts {n : Nat} {v : Value} {x : DataW H × List MemPlace} (h : DataW.trod enc Tryd.prog w base spare held n 37 [v] = some x) : ∃ xs, Arow w v xs ∧ ∀ a ∈ xs, AttW a := by
  rcases open_slice Tryd.underlying37 h with ⟨hcs, -⟩ | ⟨a, len, cap, m, n', D, Pl, hcs, -, hl, hm, hmm, -, hi⟩
  · injection hcs with hv _
    subst hv
    exact ⟨[], Row.nil w, by simp⟩
  · injection hcs with hv _
    subst hv
    have hlm : len ≤ m := by rw [hmm]; split <;> omega
    have hex : ∀ i, i < len → ∃ k : Att, AttW k ∧ ∀ j u, (ac k)[j]? = some u → w.cell? (a.add (i * 5 + j)) = some u := by
      intro i hil
      obtain ⟨cs', hc, ht⟩ := hi i (by omega)
      obtain ⟨k, hw, rfl⟩ := open_att ht
      rw [att_cells] at hc
      obtain ⟨-, hcl, hat⟩ := World.cells?_some hc
      refine ⟨k, hw, fun j u hu => ?_⟩
      have hj : j < 5 := by have := (List.getElem?_eq_some_iff.1 hu).1; simpa using this
      have := hat j hj
      rw [hu, add_add] at this
      exact this
    have hex2 : ∀ i : Fin len, ∃ k : Att, AttW k ∧ ∀ j u, (ac k)[j]? = some u → w.cell? (a.add (i.1 * 5 + j)) = some u := fun i => hex i.1 i.2
    obtain ⟨f, hf⟩ := Classical.axiomOfChoice hex2
    have hlen : (List.ofFn f).length = len := by simp
    refine ⟨List.ofFn f, ?_, fun k hk => ?_⟩
    · by_cases h0 : len = 0
      · subst h0
        exact .inl ⟨some a, cap, rfl, by simp, hm, by simp⟩
      · obtain ⟨b, off, spot⟩ := a
        have hspot : spot = none := by
          have := (hf ⟨0, by omega⟩).2 0 _ rfl
          simpa [Addr.add] using World.cell?_spot this
        subst hspot
        refine .inr ⟨b, off, cap, by rw [hlen], by omega, by omega, hm, fun j u hu => ?_⟩
        have hjl : j < len * 5 := by
          have := (List.getElem?_eq_some_iff.1 hu).1
          rwa [fl_len, hlen] at this
        have e1 : j / 5 * 5 + j % 5 = j := by omega
        have hd : j / 5 < len := by omega
        have g := fl_get attC (List.ofFn f) (j / 5) (j % 5) (by omega) (by show j % 5 < 5; omega)
        rw [show j / 5 * attC.m + j % 5 = j from e1, hu] at g
        have := (hf ⟨j / 5, hd⟩).2 (j % 5) u (by rw [g]; simp [attC])
        rw [e1, Go.WideShapes.add_plain] at this
        exact this
    · obtain ⟨i, rfl⟩ := List.mem_ofFn.1 hk
      exact (hf i).1

set_option maxRecDepth 100000 in
/-- An attribute that came in by value. -/
theorem open_att1 {r : Reach} {b0 : Nat} {v : Value} {d : DataW H} {p : List MemPlace} (hv : Value.okWide Tryd.prog w r b0 47 v) (h : DataW.Trod enc Tryd.prog w base spare held 47 v d p) : ∃ a : Att, AttW a ∧ v = av a := by
  obtain ⟨cs, rfl, hsz⟩ := okWide_struct att_fields hv
  obtain ⟨fuel, hf⟩ := h
  obtain ⟨a, hw, hc⟩ := open_att (cs := cs.toList) (by simpa [Value.cells] using hf)
  refine ⟨a, hw, ?_⟩
  have : cs = aca a := by
    cases cs
    simp at hc
    rw [hc]
  rw [this]
end
end Go.Proofs.YtiobcifpebehnaaDoor
