
import Derived.Test.YteilhjkkgdgbkaaNF
import Derived.Deep.Slices
import Derived.Deep.Fields
import Derived.ChangeArms
import Derived.ChangeSame
import Derived.ChangeMaps5
import Derived.Lib.SmallJoins
import Derived.OpenShut
/- NO: a row of calls that came in -/
namespace Go.Proofs.Yteilhjkkgdgbkaa
open Go.RowKit Go.ChangeShapes Go.WideShapes Go.Deep
set_option linter.unusedVariables false

/-- A call: its kind, its number, its thing. -/
structure OpL where
  k : Int
  i : Int
  x : Int
def opC : Cel OpL := ⟨fun o => [.int .i64 o.k, .int .i64 o.i, .int .i64 o.x], 3, fun _ => rfl, fun o u hu => by
  rcases List.mem_cons.1 hu with rfl | hu
  · rfl
  · rcases List.mem_cons.1 hu with rfl | hu
    · rfl
    · obtain rfl := List.mem_singleton.1 hu
      rfl, by decide⟩
/-- What lies in a call is within an int. -/
structure OpW (o : OpL) : Prop where
  k : (Lit.int .i64 o.k).wf = true
  i : (Lit.int .i64 o.i).wf = true
  x : (Lit.int .i64 o.x).wf = true
@[reducible] def Orow (w : World) (v : Value) (ls : List OpL) : Prop := Row opC w v ls
theorem Orow.opn {w : World} {a : Option Addr} {n cap : Nat} {ls : List OpL} (h : Orow w (.slice a n cap) ls) (h0 : 0 < ls.length) :
    ∃ b off, a = some ⟨b, off, none⟩ ∧ ls.length ≤ cap ∧ cap ≤ maxLen ∧ b < w.heap.size ∧ (∀ j (hj : j < ls.length),
      w.cell? ⟨b, off + j * 3, none⟩ = some (.int .i64 ls[j].k) ∧ w.cell? ⟨b, off + j * 3 + 1, none⟩ = some (.int .i64 ls[j].i) ∧ w.cell? ⟨b, off + j * 3 + 2, none⟩ = some (.int .i64 ls[j].x)) := by
  obtain ⟨b, off, ha, hn, hc, hm, hb, hat, -⟩ := Row.opened h h0
  exact ⟨b, off, ha, hc, hm, hb, fun j hj => ⟨hat j hj 0 _ rfl, hat j hj 1 _ rfl, hat j hj 2 _ rfl⟩⟩

section
variable {H : Type} {enc : TypeId × Value → H} {w : World} {base : Nat} {spare : Nat → Bool} {held : Bool}
/-- A slice that came in, whatever its elements are. -/
theorem open_rowP {α : Type} (C : Cel α) (P : α → Prop) {t e : TypeId} (ht : Try.prog.underlying t = some (.slice e)) (hce : Try.prog.cellsOf e = C.m)
    (hel : ∀ (n : Nat) (cs : List Value) (y : DataW H × List MemPlace), DataW.trod enc Try.prog w base spare held n e cs = some y → ∃ x, P x ∧ cs = C.c x)
    {n : Nat} {v : Value} {x : DataW H × List MemPlace} (h : DataW.trod enc Try.prog w base spare held n t [v] = some x) : ∃ xs, Row C w v xs ∧ ∀ a ∈ xs, P a := by
  rcases open_slice ht h with ⟨hcs, -⟩ | ⟨a, len, cap, m, n', D, Pl, hcs, -, hl, hm, hmm, hx, hi⟩
  · injection hcs with hv _
    subst hv
    exact ⟨[], Row.nil w, by simp⟩
  · injection hcs with hv _
    subst hv
    have hlm : len ≤ m := by rw [hmm]; split <;> omega
    have hex : ∀ i : Fin len, ∃ k : α, P k ∧ ∀ j u, (C.c k)[j]? = some u → w.cell? (a.add (i.1 * C.m + j)) = some u := by
      rintro ⟨i, hil⟩
      obtain ⟨cs', hc, ht⟩ := hi i (by omega)
      obtain ⟨k, hw, rfl⟩ := hel _ _ _ ht
      rw [hce] at hc
      obtain ⟨-, hcl, hat⟩ := World.cells?_some hc
      refine ⟨k, hw, fun j u hu => ?_⟩
      have hj : j < C.m := by have := (List.getElem?_eq_some_iff.1 hu).1; rwa [C.len] at this
      have := hat j hj
      rw [hu, add_add] at this
      exact this
    obtain ⟨f, hf⟩ := Classical.axiomOfChoice hex
    have hlen : (List.ofFn f).length = len := by simp
    refine ⟨List.ofFn f, ?_, fun k hk => ?_⟩
    · by_cases h0 : len = 0
      · subst h0
        exact .inl ⟨some a, cap, rfl, by simp, hm, by simp⟩
      · obtain ⟨b, off, spot⟩ := a
        have hp : 0 < (C.c (f ⟨0, by omega⟩)).length := by rw [C.len]; exact C.pos
        have hspot : spot = none := by
          have := (hf ⟨0, by omega⟩).2 0 _ (List.getElem?_eq_getElem hp)
          simpa [Addr.add] using World.cell?_spot this
        subst hspot
        refine .inr ⟨b, off, cap, by rw [hlen], by omega, by omega, hm, fun j u hu => ?_⟩
        have hjl : j < len * C.m := by
          have := (List.getElem?_eq_some_iff.1 hu).1
          rwa [fl_len, hlen] at this
        have e1 : j / C.m * C.m + j % C.m = j := by rw [Nat.mul_comm]; exact Nat.div_add_mod j C.m
        have hd : j / C.m < len := by rw [Nat.div_lt_iff_lt_mul C.pos]; exact hjl
        have g := fl_get C (List.ofFn f) (j / C.m) (j % C.m) (by omega) (Nat.mod_lt _ C.pos)
        rw [e1, hu] at g
        have := (hf ⟨j / C.m, hd⟩).2 (j % C.m) u (by rw [g]; simp)
        rw [e1, Go.WideShapes.add_plain] at this
        exact this
    · obtain ⟨i, rfl⟩ := List.mem_ofFn.1 hk
      exact (hf i).1

theorem op_fields : Try.prog.underlying 33 = some (.struct (Try.prog.fieldsOf 33)) := by kernel_rfl
theorem op_one : oneCellFields Try.prog (Try.prog.fieldsOf 33) = true := by kernel_rfl
theorem op_cells : Try.prog.cellsOf 33 = 3 := by kernel_rfl
theorem op_types : (Try.prog.fieldsOf 33).map (·.type) = #[3, 3, 2] := by kernel_rfl
theorem op_size : (Try.prog.fieldsOf 33).size = 3 := by kernel_rfl
set_option maxRecDepth 100000 in
theorem open_op {n : Nat} {cs : List Value} {y : DataW H × List MemPlace} (h : DataW.trod enc Try.prog w base spare held n 33 cs = some y) : ∃ o : OpL, OpW o ∧ cs = opC.c o := by
  obtain ⟨ys, m, -, hy, hlen, hys, hf⟩ := DataW.trod_struct op_fields h
  rw [op_cells] at hlen
  rw [op_size] at hys
  have hj : ∀ (j : Nat) (t : TypeId), (#[3, 3, 2] : Array TypeId)[j]? = some t → DataW.trod enc Try.prog w base spare held m t ((cs.drop j).take 1) = ys[j]? := by
    intro j t hjt
    rw [← op_types, Array.getElem?_map, Option.map_eq_some_iff] at hjt
    obtain ⟨f, hfj, rfl⟩ := hjt
    obtain ⟨ho, hk⟩ := hone_of op_one j f hfj
    have := hf j f hfj
    rwa [ho, hk] at this
  clear hf h
  match cs, hlen with
  | [c0, c1, c2], _ =>
    match ys, hys with
    | [y0, y1, y2], _ =>
      have h0 : DataW.trod enc Try.prog w base spare held m 3 [c0] = some y0 := hj 0 _ rfl
      have h1 : DataW.trod enc Try.prog w base spare held m 3 [c1] = some y1 := hj 1 _ rfl
      have h2 : DataW.trod enc Try.prog w base spare held m 2 [c2] = some y2 := hj 2 _ rfl
      obtain ⟨a0, e0, rfl, w0⟩ := DataW.trod_int Try.underlying3 h0
      obtain ⟨a1, e1, rfl, w1⟩ := DataW.trod_int Try.underlying3 h1
      obtain ⟨a2, e2, rfl, w2⟩ := DataW.trod_int Try.underlying2 h2
      simp only [List.cons.injEq, and_true] at e0 e1 e2
      subst e0 e1 e2
      exact ⟨⟨a0, a1, a2⟩, ⟨w0, w1, w2⟩, rfl⟩
/-- A slice of calls that came in. -/
theorem open_ops {n : Nat} {v : Value} {x : DataW H × List MemPlace} (h : DataW.trod enc Try.prog w base spare held n 22 [v] = some x) :
    ∃ ls : List OpL, Orow w v ls ∧ ∀ o ∈ ls, OpW o :=
  open_rowP opC OpW Try.underlying22 op_cells (fun n cs y hy => open_op hy) h
end
end Go.Proofs.Yteilhjkkgdgbkaa
