
import Derived.Test.YtgckofoaiojocaaY1
import Derived.Lib.SmallJoins
import Derived.ChangeArms
import Derived.ChangeSame
import Derived.ChangeMaps5
import Derived.ShutString
import Derived.SizedLaws
namespace Go.Proofs.Ytgckofoaiojocaa
open Go.RowKit Go.ChangeShapes Go.WideShapes Go.Deep
set_option linter.unusedVariables false

section
variable {H : Type} {enc : TypeId × Value → H} {w : World} {base : Nat} {spare : Nat → Bool} {held : Bool}
/-- A value as data. -/
def valD (k n f : Int) (s : ByteArray) : DataW H := .agg [.lit (.int .u8 k), .lit (.int .i64 n), .lit (.int .u64 f), .lit (.string s.data.toList)]
theorem val_one : oneCellFields Try.prog (Try.prog.fieldsOf 24) = true := by kernel_rfl
theorem val_cells : Try.prog.cellsOf 24 = 4 := by kernel_rfl
/-- What a value's fields are within. -/
structure ValW (k n f : Int) (s : ByteArray) : Prop where
  k : (Lit.int .u8 k).wf = true
  n : (Lit.int .i64 n).wf = true
  f : (Lit.int .u64 f).wf = true
  s : s.size ≤ maxLen
theorem open_val {r : Reach} {b0 : Nat} {v : Value} {d : DataW H} {p : List MemPlace} (hv : Value.okWide Try.prog w r b0 24 v) (h : DataW.Trod enc Try.prog w base spare held 24 v d p) :
    ∃ k n f s, v = val k n f s ∧ d = valD k n f s ∧ p = [] ∧ ValW k n f s := by
  obtain ⟨v0, v1, v2, v3, y0, y1, y2, y3, m, rfl, rfl, rfl, h0, h1, h2, h3⟩ := Go.Joins.open_agg4 Try.underlying24 (by kernel_rfl) val_cells hv h
  obtain ⟨k, e0, rfl, w0⟩ := DataW.trod_int Try.underlying5 h0
  obtain ⟨n, e1, rfl, w1⟩ := DataW.trod_int Try.underlying2 h1
  obtain ⟨f, e2, rfl, w2⟩ := DataW.trod_int Try.underlying22 h2
  obtain ⟨s, e3, rfl, w3⟩ := DataW.trod_string Try.underlying9 h3
  simp only [List.cons.injEq, and_true] at e0 e1 e2 e3
  subst e0 e1 e2 e3
  exact ⟨k, n, f, s, rfl, rfl, rfl, w0, w1, w2, w3⟩
theorem shut_val {k n f : Int} {s : ByteArray} (hw : ValW k n f s) : DataW.Trod enc Try.prog w base spare held 24 (val k n f s) (valD k n f s) [] := by
  have h := Go.Joins.shut_agg4 (P := Try.prog) (enc := enc) (w := w) (base := base) (spare := spare) (held := held) (v0 := .int .u8 k) (v1 := .int .i64 n) (v2 := .int .u64 f) (v3 := .string s) (y0 := (.lit (.int .u8 k), [])) (y1 := (.lit (.int .i64 n), [])) (y2 := (.lit (.int .u64 f), [])) (y3 := (.lit (.string s.data.toList), [])) Try.underlying24 (by kernel_rfl) val_cells
    ⟨1, trod_int_mk 0 Try.underlying5 hw.k⟩ ⟨1, trod_int_mk 0 Try.underlying2 hw.n⟩ ⟨1, trod_int_mk 0 Try.underlying22 hw.f⟩ (by simpa [DataW.Trod, Value.cells] using Go.ChangeMaps.shut_string (enc := enc) (w := w) (base := base) (sp := spare) (held := held) Try.underlying9 hw.s)
  exact h
/-- No argument's text takes more than a process's addresses. -/
theorem sized_val {ts : List TypeId} {ds : List (DataW H)} (h : (DataW.weightsEach Try.prog ts ds).all (· ≤ reachBytes) = true) {j : Nat} {k n f : Int} {s : ByteArray} (ht : ts[j]? = some 24) (hd : ds[j]? = some (valD k n f s)) : s.size ≤ 140737488355328 := by
  have h1 := List.all_eq_true.1 h _ (DataW.weights_mem_each ht hd s.data.toList.length (by simp [valD, DataW.weights, DataW.weightsEach, Try.underlying24]))
  have h2 := reachBytes_lt
  simp at h1
  omega
theorem sized_str {ts : List TypeId} {ds : List (DataW H)} (h : (DataW.weightsEach Try.prog ts ds).all (· ≤ reachBytes) = true) {j : Nat} {t : TypeId} {s : ByteArray} (ht : ts[j]? = some t) (hd : ds[j]? = some (.lit (.string s.data.toList))) : s.size ≤ 140737488355328 := by
  have h1 := sized_string h ht hd
  have h2 := reachBytes_lt
  simp at h1
  omega
end
end Go.Proofs.Ytgckofoaiojocaa
