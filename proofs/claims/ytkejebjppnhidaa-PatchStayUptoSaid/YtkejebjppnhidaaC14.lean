
import Derived.Test.YtkejebjppnhidaaC12
import Derived.Test.YtkejebjppnhidaaA18
import Derived.SizedLaws
/- C14: changes and attributes that came in, and what they weigh -/
namespace Go.Proofs.Ytkejebjppnhidaa
open Go.RowKit Go.ChangeShapes Go.WideShapes Go.Deep
set_option linter.unusedVariables false

section
variable {H : Type} {enc : TypeId × Value → H} {w : World} {base : Nat} {spare : Nat → Bool} {held : Bool}

/-- The datum of a change, of an attribute. -/
def vD (k n f : Int) (s : ByteArray) : DataW H := .agg [.lit (.int .u8 k), .lit (.int .i64 n), .lit (.int .u64 f), .lit (.string s.data.toList)]
def chD (a : Chg) : DataW H := .agg [.lit (.int .i64 a.key), .lit (.bool a.g), vD a.k a.n a.f a.s]
def atD (a : Att) : DataW H := .agg [.lit (.int .i64 a.key), vD a.k a.n a.f a.s]

theorem ch_fields : Try.prog.underlying 52 = some (.struct (Try.prog.fieldsOf 52)) := by kernel_rfl
theorem ch_cells : Try.prog.cellsOf 52 = 6 := by kernel_rfl
theorem ch_types : (Try.prog.fieldsOf 52).map (fun f => (f.type, f.offset)) = #[(3, 0), (4, 1), (50, 2)] := by kernel_rfl
theorem ch_size : (Try.prog.fieldsOf 52).size = 3 := by kernel_rfl
theorem bool_cells6 : Try.prog.cellsOf 4 = 1 := by kernel_rfl
theorem ch_bytes : Try.prog.bytesOf 52 = 56 := by kernel_rfl
theorem at_bytes : Try.prog.bytesOf 57 = 48 := by kernel_rfl

set_option maxRecDepth 100000 in
theorem open_val6 {n : Nat} {cs : List Value} {y : DataW H × List MemPlace} (h : DataW.trod enc Try.prog w base spare held n 50 cs = some y) :
    ∃ (k n' f : Int) (s : ByteArray), (Lit.int .u8 k).wf = true ∧ (Lit.int .i64 n').wf = true ∧ (Lit.int .u64 f).wf = true ∧ s.size ≤ maxLen ∧ cs = [.int .u8 k, .int .i64 n', .int .u64 f, .string s] ∧ y.1 = vD k n' f s := by
  obtain ⟨ys, m, -, hy, hlen, hys, hf⟩ := DataW.trod_struct value_fields5 h
  rw [value_cells5] at hlen
  rw [value_size5] at hys
  have hj : ∀ (j : Nat) (t : TypeId), (#[5, 2, 48, 9] : Array TypeId)[j]? = some t → DataW.trod enc Try.prog w base spare held m t ((cs.drop j).take 1) = ys[j]? := by
    intro j t hjt
    rw [← value_types5, Array.getElem?_map, Option.map_eq_some_iff] at hjt
    obtain ⟨f, hfj, rfl⟩ := hjt
    obtain ⟨ho, hk⟩ := hone_of value_one5 j f hfj
    have := hf j f hfj
    rwa [ho, hk] at this
  clear hf h
  match cs, hlen with
  | [c0, c1, c2, c3], _ =>
    match ys, hys with
    | [y0, y1, y2, y3], _ =>
      have h0 : DataW.trod enc Try.prog w base spare held m 5 [c0] = some y0 := hj 0 _ rfl
      have h1 : DataW.trod enc Try.prog w base spare held m 2 [c1] = some y1 := hj 1 _ rfl
      have h2 : DataW.trod enc Try.prog w base spare held m 48 [c2] = some y2 := hj 2 _ rfl
      have h3 : DataW.trod enc Try.prog w base spare held m 9 [c3] = some y3 := hj 3 _ rfl
      obtain ⟨a0, e0, rfl, w0⟩ := DataW.trod_int Try.underlying5 h0
      obtain ⟨a1, e1, rfl, w1⟩ := DataW.trod_int Try.underlying2 h1
      obtain ⟨a2, e2, rfl, w2⟩ := DataW.trod_int Try.underlying48 h2
      obtain ⟨a3, e3, rfl, w3⟩ := DataW.trod_string Try.underlying9 h3
      simp only [List.cons.injEq, and_true] at e0 e1 e2 e3
      subst e0 e1 e2 e3
      exact ⟨a0, a1, a2, a3, w0, w1, w2, w3, rfl, by rw [hy]; rfl⟩

set_option maxRecDepth 100000 in
theorem open_att6 {n : Nat} {cs : List Value} {y : DataW H × List MemPlace} (h : DataW.trod enc Try.prog w base spare held n 57 cs = some y) : ∃ a : Att, AttW a ∧ cs = ac a ∧ y.1 = atD a := by
  obtain ⟨ys, m, -, hy, hlen, hys, hf⟩ := DataW.trod_struct att_fields h
  rw [att_cells] at hlen
  rw [att_size] at hys
  have hj : ∀ (j : Nat) (t : TypeId) (o : Nat), (#[(3, 0), (50, 1)] : Array (TypeId × Nat))[j]? = some (t, o) → DataW.trod enc Try.prog w base spare held m t ((cs.drop o).take (Try.prog.cellsOf t)) = ys[j]? := by
    intro j t o hjt
    rw [← att_types, Array.getElem?_map, Option.map_eq_some_iff] at hjt
    obtain ⟨f, hfj, e⟩ := hjt
    simp only [Prod.mk.injEq] at e
    obtain ⟨rfl, rfl⟩ := e
    exact hf j f hfj
  clear hf h
  match cs, hlen with
  | [c0, c1, c2, c3, c4], _ =>
    match ys, hys with
    | [y0, y1], _ =>
      have h0 := hj 0 3 0 rfl
      have h1 := hj 1 50 1 rfl
      rw [int_cells5] at h0
      rw [value_cells5] at h1
      have h0' : DataW.trod enc Try.prog w base spare held m 3 [c0] = some y0 := h0
      have h1' : DataW.trod enc Try.prog w base spare held m 50 [c1, c2, c3, c4] = some y1 := h1
      obtain ⟨a0, e0, rfl, w0⟩ := DataW.trod_int Try.underlying3 h0'
      obtain ⟨k, n', f, s, w1, w2, w3, w4, e1, hd⟩ := open_val6 h1'
      simp only [List.cons.injEq, and_true] at e0 e1
      obtain ⟨rfl, rfl, rfl, rfl⟩ := e1
      subst e0
      exact ⟨⟨a0, k, n', f, s⟩, ⟨w0, w1, w2, w3, w4⟩, rfl, by rw [hy]; simp [atD, hd]⟩

set_option maxRecDepth 100000 in
theorem open_chg6 {n : Nat} {cs : List Value} {y : DataW H × List MemPlace} (h : DataW.trod enc Try.prog w base spare held n 52 cs = some y) : ∃ a : Chg, ChgW a ∧ cs = cc a ∧ y.1 = chD a := by
  obtain ⟨ys, m, -, hy, hlen, hys, hf⟩ := DataW.trod_struct ch_fields h
  rw [ch_cells] at hlen
  rw [ch_size] at hys
  have hj : ∀ (j : Nat) (t : TypeId) (o : Nat), (#[(3, 0), (4, 1), (50, 2)] : Array (TypeId × Nat))[j]? = some (t, o) → DataW.trod enc Try.prog w base spare held m t ((cs.drop o).take (Try.prog.cellsOf t)) = ys[j]? := by
    intro j t o hjt
    rw [← ch_types, Array.getElem?_map, Option.map_eq_some_iff] at hjt
    obtain ⟨f, hfj, e⟩ := hjt
    simp only [Prod.mk.injEq] at e
    obtain ⟨rfl, rfl⟩ := e
    exact hf j f hfj
  clear hf h
  match cs, hlen with
  | [c0, cb, c1, c2, c3, c4], _ =>
    match ys, hys with
    | [y0, yb, y1], _ =>
      have h0 := hj 0 3 0 rfl
      have hb := hj 1 4 1 rfl
      have h1 := hj 2 50 2 rfl
      rw [int_cells5] at h0
      rw [bool_cells6] at hb
      rw [value_cells5] at h1
      have h0' : DataW.trod enc Try.prog w base spare held m 3 [c0] = some y0 := h0
      have hb' : DataW.trod enc Try.prog w base spare held m 4 [cb] = some yb := hb
      have h1' : DataW.trod enc Try.prog w base spare held m 50 [c1, c2, c3, c4] = some y1 := h1
      obtain ⟨a0, e0, rfl, w0⟩ := DataW.trod_int Try.underlying3 h0'
      obtain ⟨ab, eb, rfl⟩ := DataW.trod_bool Try.underlying4 hb'
      obtain ⟨k, n', f, s, w1, w2, w3, w4, e1, hd⟩ := open_val6 h1'
      simp only [List.cons.injEq, and_true] at e0 eb e1
      obtain ⟨rfl, rfl, rfl, rfl⟩ := e1
      subst e0 eb
      exact ⟨⟨a0, ab, k, n', f, s⟩, ⟨w0, w1, w2, w3, w4⟩, rfl, by rw [hy]; simp [chD, hd]⟩

set_option maxRecDepth 100000 in
/-- A slice that came in, of whatever lies as C says. -/
theorem open_rows {α : Type} (C : Cel α) (W : α → Prop) (D : α → DataW H) {t e : TypeId} (ht : Try.prog.underlying t = some (.slice e)) (hcell : Try.prog.cellsOf e = C.m)
    (hop : ∀ {n : Nat} {cs : List Value} {y : DataW H × List MemPlace}, DataW.trod enc Try.prog w base spare held n e cs = some y → ∃ a : α, W a ∧ cs = C.c a ∧ y.1 = D a)
    {n : Nat} {v : Value} {x : DataW H × List MemPlace} (h : DataW.trod enc Try.prog w base spare held n t [v] = some x) :
    ∃ xs : List α, Row C w v xs ∧ (∀ a ∈ xs, W a) ∧ (x.1 = .nil ∧ xs = [] ∨ ∃ sp, x.1 = .slice (xs.map D) sp) := by
  rcases open_slice ht h with ⟨hcs, hx⟩ | ⟨a, len, cap, m, n', Dt, Pl, hcs, -, hl, hm, hmm, hx, hi⟩
  · injection hcs with hv _
    subst hv
    exact ⟨[], Row.nil w, by simp, .inl ⟨by rw [hx], rfl⟩⟩
  · injection hcs with hv _
    subst hv
    have hlm : len ≤ m := by rw [hmm]; split <;> omega
    have hex : ∀ i, i < len → ∃ k : α, W k ∧ (∀ j u, (C.c k)[j]? = some u → w.cell? (a.add (i * C.m + j)) = some u) ∧ Dt i = D k := by
      intro i hil
      obtain ⟨cs', hc, ht⟩ := hi i (by omega)
      obtain ⟨k, hw, rfl, hd⟩ := hop ht
      rw [hcell] at hc
      obtain ⟨-, hcl, hat⟩ := World.cells?_some hc
      refine ⟨k, hw, fun j u hu => ?_, hd⟩
      have hj : j < C.m := by have := (List.getElem?_eq_some_iff.1 hu).1; rwa [C.len] at this
      have := hat j hj
      rw [hu, add_add] at this
      exact this
    have hex2 : ∀ i : Fin len, ∃ k : α, W k ∧ (∀ j u, (C.c k)[j]? = some u → w.cell? (a.add (i.1 * C.m + j)) = some u) ∧ Dt i.1 = D k := fun i => hex i.1 i.2
    obtain ⟨f, hf⟩ := Classical.axiomOfChoice hex2
    have hlen : (List.ofFn f).length = len := by simp
    refine ⟨List.ofFn f, ?_, fun k hk => ?_, .inr ⟨(List.range (m - len)).map fun j => Dt (len + j), ?_⟩⟩
    · by_cases h0 : len = 0
      · subst h0
        exact .inl ⟨some a, cap, rfl, by simp, hm, by simp⟩
      · obtain ⟨b, off, spot⟩ := a
        have hspot : spot = none := by
          have hp : 0 < (C.c (f ⟨0, by omega⟩)).length := by rw [C.len]; exact C.pos
          have := (hf ⟨0, by omega⟩).2.1 0 _ (List.getElem?_eq_getElem hp)
          simpa [Addr.add] using World.cell?_spot this
        subst hspot
        refine .inr ⟨b, off, cap, by rw [hlen], by omega, by omega, hm, fun j u hu => ?_⟩
        have hjl : j < len * C.m := by
          have := (List.getElem?_eq_some_iff.1 hu).1
          rwa [fl_len, hlen] at this
        have hd : j / C.m < len := Nat.div_lt_of_lt_mul (by rw [Nat.mul_comm]; exact hjl)
        have e1 : j / C.m * C.m + j % C.m = j := by rw [Nat.mul_comm]; exact Nat.div_add_mod j C.m
        have g := fl_get C (List.ofFn f) (j / C.m) (j % C.m) (by omega) (Nat.mod_lt _ C.pos)
        rw [e1, hu] at g
        have := (hf ⟨j / C.m, hd⟩).2.1 (j % C.m) u (by rw [g]; simp)
        rw [e1, Go.WideShapes.add_plain] at this
        exact this
    · obtain ⟨i, rfl⟩ := List.mem_ofFn.1 hk
      exact (hf i).1
    · rw [hx]
      show DataW.slice ((List.range len).map Dt) _ = DataW.slice _ _
      congr 1
      apply List.ext_getElem
      · simp
      · intro i h1 h2
        simp at h1
        simp [(hf ⟨i, h1⟩).2.2]

/-- What a slice of changes, of attributes, that came in is. -/
def InC (d : DataW H) (xs : List Chg) : Prop := d = .nil ∧ xs = [] ∨ ∃ sp, d = .slice (xs.map chD) sp
def InA (d : DataW H) (xs : List Att) : Prop := d = .nil ∧ xs = [] ∨ ∃ sp, d = .slice (xs.map atD) sp
set_option maxRecDepth 100000 in
theorem open_chs {n : Nat} {v : Value} {x : DataW H × List MemPlace} (h : DataW.trod enc Try.prog w base spare held n 23 [v] = some x) : ∃ xs, Crow w v xs ∧ (∀ a ∈ xs, ChgW a) ∧ InC x.1 xs :=
  open_rows chC ChgW chD Try.underlying23 ch_cells (fun h => open_chg6 h) h
set_option maxRecDepth 100000 in
theorem open_ats {n : Nat} {v : Value} {x : DataW H × List MemPlace} (h : DataW.trod enc Try.prog w base spare held n 39 [v] = some x) : ∃ xs, Arow w v xs ∧ (∀ a ∈ xs, AttW a) ∧ InA x.1 xs :=
  open_rows attC AttW atD Try.underlying39 att_cells (fun h => open_att6 h) h

set_option maxRecDepth 100000 in
/-- What they weigh: how many places, how long each text. -/
theorem sized_C {ts : List TypeId} {ds : List (DataW H)} (h : (DataW.weightsEach Try.prog ts ds).all (· ≤ reachBytes) = true) {j : Nat} {d : DataW H} {xs : List Chg} (hd : InC d xs) (ht : ts[j]? = some 23) (hj : ds[j]? = some d) :
    xs.length * 56 ≤ 140737488355328 ∧ ∀ c ∈ xs, c.s.size ≤ 140737488355328 := by
  have h2 := reachBytes_lt
  rcases hd with ⟨-, rfl⟩ | ⟨sp, rfl⟩
  · simp
  · have hu := Try.underlying23
    refine ⟨?_, fun c hc => ?_⟩
    · have := sized_slice h ht hj hu
      rw [ch_bytes, List.length_map] at this
      have h3 : xs.length * 56 ≤ (xs.length + sp.length) * 56 := Nat.mul_le_mul_right _ (by omega)
      omega
    · have hin : ∀ (l : List Chg), c ∈ l → c.s.data.toList.length ∈ DataW.weightsAll Try.prog 52 (l.map (chD (H := H))) := by
        intro l hl
        induction l with
        | nil => cases hl
        | cons x r ih =>
          simp only [List.map_cons, DataW.weightsAll, List.mem_append]
          rcases List.mem_cons.1 hl with rfl | hl
          · left
            simp [chD, vD, DataW.weights, DataW.weightsEach, Try.underlying52, Try.underlying50]
          · exact .inr (ih hl)
      have h4 := List.all_eq_true.1 h _ (DataW.weights_mem_each ht hj c.s.data.toList.length (by simp only [DataW.weights, hu, List.mem_cons, List.mem_append]; exact .inr (.inl (hin xs hc))))
      simp at h4
      omega

/-- What they are of bulk. -/
theorem bulk_C (xs : List Chg) : totC xs ≤ Rows.uptoBulkAll (xs.map (chD (H := H))) := by
  induction xs with
  | nil => simp [totC, sizeC, Rows.uptoBulkAll]
  | cons x r ih =>
    have e : totC (x :: r) = totC r + (1 + x.s.size) := by simp [totC, sizeC]; omega
    have e2 : x.s.data.toList.length = x.s.size := by rw [Array.length_toList]; rfl
    rw [e, List.map_cons, Rows.uptoBulkAll]
    simp only [chD, vD, Rows.uptoBulk, Rows.uptoBulkAll]
    omega
theorem bulk_A (xs : List Att) : totA xs ≤ Rows.uptoBulkAll (xs.map (atD (H := H))) := by
  induction xs with
  | nil => simp [totA, sizeA, Rows.uptoBulkAll]
  | cons x r ih =>
    have e : totA (x :: r) = totA r + (1 + x.s.size) := by simp [totA, sizeA]; omega
    have e2 : x.s.data.toList.length = x.s.size := by rw [Array.length_toList]; rfl
    rw [e, List.map_cons, Rows.uptoBulkAll]
    simp only [atD, vD, Rows.uptoBulk, Rows.uptoBulkAll]
    omega
theorem in_bulk {d : DataW H} : ∀ {l : List (DataW H)}, d ∈ l → Rows.uptoBulk d ≤ Rows.uptoBulkAll l
  | x :: r, h => by
    rw [Rows.uptoBulkAll]
    rcases List.mem_cons.1 h with rfl | h
    · omega
    · have := in_bulk h; omega
theorem small_C {ds : List (DataW H)} (hk : Rows.uptoSmall H ds = true) {d : DataW H} {xs : List Chg} (hd : InC d xs) (hm : d ∈ ds) : totC xs ≤ 1048576 := by
  have h : Rows.uptoBulkAll ds ≤ 1048576 := of_decide_eq_true hk
  have h2 := in_bulk hm
  rcases hd with ⟨-, rfl⟩ | ⟨sp, rfl⟩
  · simp [totC, sizeC]
  · have := bulk_C (H := H) xs
    rw [Rows.uptoBulk] at h2
    omega
theorem small_A {ds : List (DataW H)} (hk : Rows.uptoSmall H ds = true) {d : DataW H} {xs : List Att} (hd : InA d xs) (hm : d ∈ ds) : totA xs ≤ 1048576 := by
  have h : Rows.uptoBulkAll ds ≤ 1048576 := of_decide_eq_true hk
  have h2 := in_bulk hm
  rcases hd with ⟨-, rfl⟩ | ⟨sp, rfl⟩
  · simp [totA, sizeA]
  · have := bulk_A (H := H) xs
    rw [Rows.uptoBulk] at h2
    omega
end
end Go.Proofs.Ytkejebjppnhidaa
