
import Derived.Test.YtclbjfeneegicaaBG
import Derived.Deep.Slices
import Derived.Deep.Fields
import Derived.ChangeArms
import Derived.ChangeSame
import Derived.ChangeMaps5
import Derived.Lib.SmallJoins
import Derived.OpenShut
import Derived.SizedLaws
/- BH: blocks and cells that came in, and what they weigh -/
namespace Go.Proofs.Ytclbjfeneegicaa
open Go.RowKit Go.ChangeShapes Go.WideShapes Go.Deep
set_option linter.unusedVariables false

section
variable {H : Type} {enc : TypeId × Value → H} {w : World} {base : Nat} {spare : Nat → Bool} {held : Bool}

theorem att_fields : Try.prog.underlying 39 = some (.struct (Try.prog.fieldsOf 39)) := by kernel_rfl
theorem att_cells : Try.prog.cellsOf 39 = 5 := by kernel_rfl
theorem att_types : (Try.prog.fieldsOf 39).map (fun f => (f.type, f.offset)) = #[(3, 0), (37, 1)] := by kernel_rfl
theorem att_size : (Try.prog.fieldsOf 39).size = 2 := by kernel_rfl
theorem int_cells5 : Try.prog.cellsOf 3 = 1 := by kernel_rfl
theorem value_cells5 : Try.prog.cellsOf 37 = 4 := by kernel_rfl
theorem value_fields5 : Try.prog.underlying 37 = some (.struct (Try.prog.fieldsOf 37)) := by kernel_rfl
theorem value_one5 : oneCellFields Try.prog (Try.prog.fieldsOf 37) = true := by kernel_rfl
theorem value_types5 : (Try.prog.fieldsOf 37).map (·.type) = #[5, 2, 35, 9] := by kernel_rfl
theorem value_size5 : (Try.prog.fieldsOf 37).size = 4 := by kernel_rfl

/-- The datum of a change, of an attribute. -/
def vD (k n f : Int) (s : ByteArray) : DataW H := .agg [.lit (.int .u8 k), .lit (.int .i64 n), .lit (.int .u64 f), .lit (.string s.data.toList)]
def atD (a : Att) : DataW H := .agg [.lit (.int .i64 a.key), vD a.k a.n a.f a.s]

theorem at_bytes : Try.prog.bytesOf 39 = 48 := by kernel_rfl
set_option maxRecDepth 100000 in
theorem open_val6 {n : Nat} {cs : List Value} {y : DataW H × List MemPlace} (h : DataW.trod enc Try.prog w base spare held n 37 cs = some y) :
    ∃ (k n' f : Int) (s : ByteArray), (Lit.int .u8 k).wf = true ∧ (Lit.int .i64 n').wf = true ∧ (Lit.int .u64 f).wf = true ∧ s.size ≤ maxLen ∧ cs = [.int .u8 k, .int .i64 n', .int .u64 f, .string s] ∧ y.1 = vD k n' f s := by
  obtain ⟨ys, m, -, hy, hlen, hys, hf⟩ := DataW.trod_struct value_fields5 h
  rw [value_cells5] at hlen
  rw [value_size5] at hys
  have hj : ∀ (j : Nat) (t : TypeId), (#[5, 2, 35, 9] : Array TypeId)[j]? = some t → DataW.trod enc Try.prog w base spare held m t ((cs.drop j).take 1) = ys[j]? := by
    intro j t hjt
    rw [← value_types5, Array.getElem?_map, Option.map_eq_some_iff] at hjt
    obtain ⟨f, hfj, rfl⟩ := hjt
    obtain ⟨ho, hk⟩ := hone_of value_one5 j f hfj
    have := hf j f hfj
    rwa [ho, hk] at this
  clear hf h
  match cs, hlen with
  | [c0, c1, c2, c3], _ =>
    match ys, hys with
    | [y0, y1, y2, y3], _ =>
      have h0 : DataW.trod enc Try.prog w base spare held m 5 [c0] = some y0 := hj 0 _ rfl
      have h1 : DataW.trod enc Try.prog w base spare held m 2 [c1] = some y1 := hj 1 _ rfl
      have h2 : DataW.trod enc Try.prog w base spare held m 35 [c2] = some y2 := hj 2 _ rfl
      have h3 : DataW.trod enc Try.prog w base spare held m 9 [c3] = some y3 := hj 3 _ rfl
      obtain ⟨a0, e0, rfl, w0⟩ := DataW.trod_int Try.underlying5 h0
      obtain ⟨a1, e1, rfl, w1⟩ := DataW.trod_int Try.underlying2 h1
      obtain ⟨a2, e2, rfl, w2⟩ := DataW.trod_int Try.underlying35 h2
      obtain ⟨a3, e3, rfl, w3⟩ := DataW.trod_string Try.underlying9 h3
      simp only [List.cons.injEq, and_true] at e0 e1 e2 e3
      subst e0 e1 e2 e3
      exact ⟨a0, a1, a2, a3, w0, w1, w2, w3, rfl, by rw [hy]; rfl⟩

set_option maxRecDepth 100000 in
theorem open_att6 {n : Nat} {cs : List Value} {y : DataW H × List MemPlace} (h : DataW.trod enc Try.prog w base spare held n 39 cs = some y) : ∃ a : Att, AttW a ∧ cs = ac a ∧ y.1 = atD a := by
  obtain ⟨ys, m, -, hy, hlen, hys, hf⟩ := DataW.trod_struct att_fields h
  rw [att_cells] at hlen
  rw [att_size] at hys
  have hj : ∀ (j : Nat) (t : TypeId) (o : Nat), (#[(3, 0), (37, 1)] : Array (TypeId × Nat))[j]? = some (t, o) → DataW.trod enc Try.prog w base spare held m t ((cs.drop o).take (Try.prog.cellsOf t)) = ys[j]? := by
    intro j t o hjt
    rw [← att_types, Array.getElem?_map, Option.map_eq_some_iff] at hjt
    obtain ⟨f, hfj, e⟩ := hjt
    simp only [Prod.mk.injEq] at e
    obtain ⟨rfl, rfl⟩ := e
    exact hf j f hfj
  clear hf h
  match cs, hlen with
  | [c0, c1, c2, c3, c4], _ =>
    match ys, hys with
    | [y0, y1], _ =>
      have h0 := hj 0 3 0 rfl
      have h1 := hj 1 37 1 rfl
      rw [int_cells5] at h0
      rw [value_cells5] at h1
      have h0' : DataW.trod enc Try.prog w base spare held m 3 [c0] = some y0 := h0
      have h1' : DataW.trod enc Try.prog w base spare held m 37 [c1, c2, c3, c4] = some y1 := h1
      obtain ⟨a0, e0, rfl, w0⟩ := DataW.trod_int Try.underlying3 h0'
      obtain ⟨k, n', f, s, w1, w2, w3, w4, e1, hd⟩ := open_val6 h1'
      simp only [List.cons.injEq, and_true] at e0 e1
      obtain ⟨rfl, rfl, rfl, rfl⟩ := e1
      subst e0
      exact ⟨⟨a0, k, n', f, s⟩, ⟨w0, w1, w2, w3, w4⟩, rfl, by rw [hy]; simp [atD, hd]⟩

set_option maxRecDepth 100000 in
/-- A slice that came in, of whatever lies as C says. -/
theorem open_rows {α : Type} (C : Cel α) (W : α → Prop) (D : α → DataW H) {t e : TypeId} (ht : Try.prog.underlying t = some (.slice e)) (hcell : Try.prog.cellsOf e = C.m)
    (hop : ∀ {n : Nat} {cs : List Value} {y : DataW H × List MemPlace}, DataW.trod enc Try.prog w base spare held n e cs = some y → ∃ a : α, W a ∧ cs = C.c a ∧ y.1 = D a)
    {n : Nat} {v : Value} {x : DataW H × List MemPlace} (h : DataW.trod enc Try.prog w base spare held n t [v] = some x) :
    ∃ xs : List α, Row C w v xs ∧ (∀ a ∈ xs, W a) ∧ (x.1 = .nil ∧ xs = [] ∨ ∃ sp, x.1 = .slice (xs.map D) sp) := by
  rcases open_slice ht h with ⟨hcs, hx⟩ | ⟨a, len, cap, m, n', Dt, Pl, hcs, -, hl, hm, hmm, hx, hi⟩
  · injection hcs with hv _
    subst hv
    exact ⟨[], Row.nil w, by simp, .inl ⟨by rw [hx], rfl⟩⟩
  · injection hcs with hv _
    subst hv
    have hlm : len ≤ m := by rw [hmm]; split <;> omega
    have hex : ∀ i, i < len → ∃ k : α, W k ∧ (∀ j u, (C.c k)[j]? = some u → w.cell? (a.add (i * C.m + j)) = some u) ∧ Dt i = D k := by
      intro i hil
      obtain ⟨cs', hc, ht⟩ := hi i (by omega)
      obtain ⟨k, hw, rfl, hd⟩ := hop ht
      rw [hcell] at hc
      obtain ⟨-, hcl, hat⟩ := World.cells?_some hc
      refine ⟨k, hw, fun j u hu => ?_, hd⟩
      have hj : j < C.m := by have := (List.getElem?_eq_some_iff.1 hu).1; rwa [C.len] at this
      have := hat j hj
      rw [hu, add_add] at this
      exact this
    have hex2 : ∀ i : Fin len, ∃ k : α, W k ∧ (∀ j u, (C.c k)[j]? = some u → w.cell? (a.add (i.1 * C.m + j)) = some u) ∧ Dt i.1 = D k := fun i => hex i.1 i.2
    obtain ⟨f, hf⟩ := Classical.axiomOfChoice hex2
    have hlen : (List.ofFn f).length = len := by simp
    refine ⟨List.ofFn f, ?_, fun k hk => ?_, .inr ⟨(List.range (m - len)).map fun j => Dt (len + j), ?_⟩⟩
    · by_cases h0 : len = 0
      · subst h0
        exact .inl ⟨some a, cap, rfl, by simp, hm, by simp⟩
      · obtain ⟨b, off, spot⟩ := a
        have hspot : spot = none := by
          have hp : 0 < (C.c (f ⟨0, by omega⟩)).length := by rw [C.len]; exact C.pos
          have := (hf ⟨0, by omega⟩).2.1 0 _ (List.getElem?_eq_getElem hp)
          simpa [Addr.add] using World.cell?_spot this
        subst hspot
        refine .inr ⟨b, off, cap, by rw [hlen], by omega, by omega, hm, fun j u hu => ?_⟩
        have hjl : j < len * C.m := by
          have := (List.getElem?_eq_some_iff.1 hu).1
          rwa [fl_len, hlen] at this
        have hd : j / C.m < len := Nat.div_lt_of_lt_mul (by rw [Nat.mul_comm]; exact hjl)
        have e1 : j / C.m * C.m + j % C.m = j := by rw [Nat.mul_comm]; exact Nat.div_add_mod j C.m
        have g := fl_get C (List.ofFn f) (j / C.m) (j % C.m) (by omega) (Nat.mod_lt _ C.pos)
        rw [e1, hu] at g
        have := (hf ⟨j / C.m, hd⟩).2.1 (j % C.m) u (by rw [g]; simp)
        rw [e1, Go.WideShapes.add_plain] at this
        exact this
    · obtain ⟨i, rfl⟩ := List.mem_ofFn.1 hk
      exact (hf i).1
    · rw [hx]
      show DataW.slice ((List.range len).map Dt) _ = DataW.slice _ _
      congr 1
      apply List.ext_getElem
      · simp
      · intro i h1 h2
        simp at h1
        simp [(hf ⟨i, h1⟩).2.2]

def InA (d : DataW H) (xs : List Att) : Prop := d = .nil ∧ xs = [] ∨ ∃ sp, d = .slice (xs.map atD) sp
set_option maxRecDepth 100000 in
theorem open_ats {n : Nat} {v : Value} {x : DataW H × List MemPlace} (h : DataW.trod enc Try.prog w base spare held n 24 [v] = some x) : ∃ xs, Arow w v xs ∧ (∀ a ∈ xs, AttW a) ∧ InA x.1 xs :=
  open_rows attC AttW atD Try.underlying24 att_cells (fun h => open_att6 h) h

theorem bk_fields : Try.prog.underlying 34 = some (.struct (Try.prog.fieldsOf 34)) := by kernel_rfl
theorem bk_one : oneCellFields Try.prog (Try.prog.fieldsOf 34) = true := by kernel_rfl
theorem bk_cells : Try.prog.cellsOf 34 = 2 := by kernel_rfl
theorem bk_types : (Try.prog.fieldsOf 34).map (·.type) = #[3, 24] := by kernel_rfl
theorem bk_size : (Try.prog.fieldsOf 34).size = 2 := by kernel_rfl
theorem cl_fields : Try.prog.underlying 44 = some (.struct (Try.prog.fieldsOf 44)) := by kernel_rfl
theorem cl_one : oneCellFields Try.prog (Try.prog.fieldsOf 44) = true := by kernel_rfl
theorem cl_cells : Try.prog.cellsOf 44 = 2 := by kernel_rfl
theorem cl_types : (Try.prog.fieldsOf 44).map (·.type) = #[21, 24] := by kernel_rfl
theorem cl_size : (Try.prog.fieldsOf 44).size = 2 := by kernel_rfl
/-- What a block that came in is: how its set is read. -/
def BkIn (w : World) (a : Bz × DataW H) : Prop := (Lit.int .i64 a.1.n).wf = true ∧ Arow w (.slice a.1.a a.1.s.length a.1.c) a.1.s ∧ ∃ e, a.2 = .agg [.lit (.int .i64 a.1.n), e] ∧ (a.1.s = [] ∨ ∃ ds sp, e = .slice ds sp ∧ ds.length = a.1.s.length)
set_option maxRecDepth 100000 in
theorem open_bk {n : Nat} {cs : List Value} {y : DataW H × List MemPlace} (h : DataW.trod enc Try.prog w base spare held n 34 cs = some y) : ∃ a : Bz × DataW H, BkIn w a ∧ cs = bzC.c a.1 ∧ y.1 = a.2 := by
  obtain ⟨ys, m, -, hy, hlen, hys, hf⟩ := DataW.trod_struct bk_fields h
  rw [bk_cells] at hlen
  rw [bk_size] at hys
  have hj : ∀ (j : Nat) (t : TypeId), (#[3, 24] : Array TypeId)[j]? = some t → DataW.trod enc Try.prog w base spare held m t ((cs.drop j).take 1) = ys[j]? := by
    intro j t hjt
    rw [← bk_types, Array.getElem?_map, Option.map_eq_some_iff] at hjt
    obtain ⟨f, hfj, rfl⟩ := hjt
    obtain ⟨ho, hk⟩ := hone_of bk_one j f hfj
    have := hf j f hfj
    rwa [ho, hk] at this
  clear hf h
  match cs, hlen with
  | [c0, c1], _ =>
    match ys, hys with
    | [y0, y1], _ =>
      have h0 : DataW.trod enc Try.prog w base spare held m 3 [c0] = some y0 := hj 0 _ rfl
      have h1 : DataW.trod enc Try.prog w base spare held m 24 [c1] = some y1 := hj 1 _ rfl
      obtain ⟨a0, e0, rfl, w0⟩ := DataW.trod_int Try.underlying3 h0
      obtain ⟨xs, q1, -, q3⟩ := open_ats h1
      simp only [List.cons.injEq, and_true] at e0
      subst e0
      obtain ⟨a, cap, rfl⟩ := q1.shape
      refine ⟨(⟨a0, a, cap, xs⟩, y.1), ⟨w0, q1, y1.1, by rw [hy]; rfl, ?_⟩, rfl, rfl⟩
      rcases q3 with ⟨-, q3⟩ | ⟨sp, q3⟩
      · exact .inl q3
      · exact .inr ⟨_, sp, q3, by simp⟩
set_option maxRecDepth 100000 in
theorem open_cl {n : Nat} {cs : List Value} {y : DataW H × List MemPlace} (h : DataW.trod enc Try.prog w base spare held n 44 cs = some y) : ∃ a : Cz × DataW H, Arow w (.slice a.1.a a.1.s.length a.1.c) a.1.s ∧ cs = czC.c a.1 ∧ y.1 = a.2 := by
  obtain ⟨ys, m, -, hy, hlen, hys, hf⟩ := DataW.trod_struct cl_fields h
  rw [cl_cells] at hlen
  rw [cl_size] at hys
  have hj : ∀ (j : Nat) (t : TypeId), (#[21, 24] : Array TypeId)[j]? = some t → DataW.trod enc Try.prog w base spare held m t ((cs.drop j).take 1) = ys[j]? := by
    intro j t hjt
    rw [← cl_types, Array.getElem?_map, Option.map_eq_some_iff] at hjt
    obtain ⟨f, hfj, rfl⟩ := hjt
    obtain ⟨ho, hk⟩ := hone_of cl_one j f hfj
    have := hf j f hfj
    rwa [ho, hk] at this
  clear hf h
  match cs, hlen with
  | [c0, c1], _ =>
    match ys, hys with
    | [y0, y1], _ =>
      have h0 : DataW.trod enc Try.prog w base spare held m 21 [c0] = some y0 := hj 0 _ rfl
      have h1 : DataW.trod enc Try.prog w base spare held m 24 [c1] = some y1 := hj 1 _ rfl
      obtain ⟨a0, e0, rfl, w0⟩ := DataW.trod_int Try.underlying21 h0
      obtain ⟨xs, q1, -, q3⟩ := open_ats h1
      simp only [List.cons.injEq, and_true] at e0
      subst e0
      obtain ⟨a, cap, rfl⟩ := q1.shape
      exact ⟨(⟨a0, a, cap, xs⟩, y.1), q1, rfl, rfl⟩
def bzD (H : Type) : Cel (Bz × DataW H) := ⟨fun a => bzC.c a.1, 2, fun _ => rfl, fun a => bzC.one a.1, by decide⟩
def czD (H : Type) : Cel (Cz × DataW H) := ⟨fun a => czC.c a.1, 2, fun _ => rfl, fun a => czC.one a.1, by decide⟩
theorem row_fst {α β : Type} {C : Cel α} {D : Cel (α × β)} (hm : D.m = C.m) (hc : ∀ a, D.c a = C.c a.1) {v : Value} {xs : List (α × β)} (h : Row D w v xs) : Row C w v (xs.map Prod.fst) := by
  have e : fl D xs = fl C (xs.map Prod.fst) := by
    unfold fl
    rw [List.flatMap_map]
    congr 1
    funext a
    exact hc a
  rcases h with ⟨a, cap, rfl, rfl, h1, h2⟩ | ⟨b, off, cap, rfl, h0, h1, h2, h3⟩
  · exact .inl ⟨a, cap, rfl, rfl, h1, h2⟩
  · refine .inr ⟨b, off, cap, by rw [List.length_map], by simpa using h0, by simpa using h1, h2, fun j u hu => h3 j u ?_⟩
    rw [e]; exact hu
/-- Blocks that came in: what they read as, and what they are as data. -/
def InB (d : DataW H) (xs : List (Bz × DataW H)) : Prop := d = .nil ∧ xs = [] ∨ ∃ sp, d = .slice (xs.map Prod.snd) sp
set_option maxRecDepth 100000 in
theorem open_bks {n : Nat} {v : Value} {x : DataW H × List MemPlace} (h : DataW.trod enc Try.prog w base spare held n 22 [v] = some x) : ∃ xs : List (Bz × DataW H), Zrow w v (xs.map Prod.fst) ∧ (∀ a ∈ xs, BkIn w a) ∧ InB x.1 xs := by
  obtain ⟨xs, h1, h2, h3⟩ := open_rows (bzD H) (BkIn w) Prod.snd Try.underlying22 bk_cells (fun h => open_bk h) h
  refine ⟨xs, ⟨row_fst rfl (fun _ => rfl) h1, fun z hz => ?_⟩, h2, h3⟩
  obtain ⟨a, ha, rfl⟩ := List.mem_map.1 hz
  exact (h2 a ha).2.1
set_option maxRecDepth 100000 in
theorem open_cls {n : Nat} {v : Value} {x : DataW H × List MemPlace} (h : DataW.trod enc Try.prog w base spare held n 42 [v] = some x) : ∃ cs : List Cz, Crow w v cs := by
  obtain ⟨xs, h1, h2, -⟩ := open_rows (czD H) (fun a => Arow w (.slice a.1.a a.1.s.length a.1.c) a.1.s) Prod.snd Try.underlying42 cl_cells (fun h => open_cl h) h
  refine ⟨xs.map Prod.fst, row_fst rfl (fun _ => rfl) h1, fun z hz => ?_⟩
  obtain ⟨a, ha, rfl⟩ := List.mem_map.1 hz
  exact h2 a ha
set_option maxRecDepth 100000 in
/-- What sets weigh that came in with blocks. -/
theorem sized_B {ts : List TypeId} {ds : List (DataW H)} (h : (DataW.weightsEach Try.prog ts ds).all (· ≤ reachBytes) = true) {j : Nat} {d : DataW H} {xs : List (Bz × DataW H)} (hd : InB d xs) (hx : ∀ a ∈ xs, BkIn w a) (ht : ts[j]? = some 22) (hj : ds[j]? = some d) :
    ∀ z ∈ xs.map Prod.fst, z.s.length * 48 ≤ 140737488355328 := by
  have h2 := reachBytes_lt
  intro z hz
  obtain ⟨a, ha, rfl⟩ := List.mem_map.1 hz
  rcases hd with ⟨-, rfl⟩ | ⟨sp, rfl⟩
  · cases ha
  · obtain ⟨-, -, e, he, hs | ⟨es, sp2, rfl, hl⟩⟩ := hx a ha
    · rw [hs]; simp
    · have hu := Try.underlying22
      have hin : ∀ (l : List (Bz × DataW H)), a ∈ l → (es.length + sp2.length) * 48 ∈ DataW.weightsAll Try.prog 34 (l.map Prod.snd) := by
        intro l hl
        induction l with
        | nil => cases hl
        | cons x r ih =>
          simp only [List.map_cons, DataW.weightsAll, List.mem_append]
          rcases List.mem_cons.1 hl with rfl | hl
          · left
            rw [he]
            simp [DataW.weights, DataW.weightsEach, Try.underlying34, Try.underlying24, at_bytes]
          · exact .inr (ih hl)
      have h4 := List.all_eq_true.1 h _ (DataW.weights_mem_each ht hj ((es.length + sp2.length) * 48) (by simp only [DataW.weights, hu, List.mem_cons, List.mem_append]; exact .inr (.inl (hin xs ha))))
      simp at h4
      have h3 : es.length * 48 ≤ (es.length + sp2.length) * 48 := Nat.mul_le_mul_right _ (by omega)
      rw [← hl]
      omega
end
end Go.Proofs.Ytclbjfeneegicaa
