
import Derived.Test.YtjgfgpkaeddjhaaG
import Derived.Deep.WholeRow
import Derived.Carry
/- OA: rows of 32 cells by value; a chunk as plain data; whether a rune may be; how many runes a chunk has -/
namespace Go.Proofs.Ytjgfgpkaeddjhaa
open Go.RowKit
set_option linter.unusedVariables false

/-- The cells of a row of int32. -/
def row (xs : List Int) : Array Value := (xs.map (Value.int .i32)).toArray
theorem row_size (xs : List Int) : (row xs).size = xs.length := by simp [row]
theorem row_get (xs : List Int) (j : Nat) (h : j < xs.length) : (row xs)[j]? = some (.int .i32 (xs.getD j 0)) := by simp [row, List.getD, h]
theorem row_one (xs : List Int) : (row xs).all (·.oneCell') = true := by
  rw [Array.all_eq_true_iff_forall_mem]
  intro v hv
  simp [row] at hv
  obtain ⟨x, -, rfl⟩ := hv
  rfl
/-- Block b holds these cells, as a variable of type t. -/
def RowAt (b : Nat) (t : TypeId) (xs : List Int) (w : World) : Prop := w.heap[b]? = some (.cells (row xs) t (0, 0))
theorem RowAt.cell {b j : Nat} {t : TypeId} {xs : List Int} {w : World} (h : RowAt b t xs w) (hj : j < xs.length) : w.cell? ⟨b, j, none⟩ = some (.int .i32 (xs.getD j 0)) := by
  rw [cell_of_row w b j _ t (0, 0) h, row_get xs j hj]
theorem rowAt_new (w : World) (t : TypeId) (xs : List Int) : RowAt w.heap.size t xs (w.alloc (.cells (row xs) t)) := heap_alloc_new w _
theorem RowAt.alloc {b : Nat} {t : TypeId} {xs : List Int} {w : World} (h : RowAt b t xs w) (o : Obj) : RowAt b t xs (w.alloc o) := by
  have hlt := (Array.getElem?_eq_some_iff.1 h).1
  show (w.alloc o).heap[b]? = _
  exact (heap_alloc_old w o hlt).trans h
theorem RowAt.below {b : Nat} {t : TypeId} {xs : List Int} {w w' : World} (h : RowAt b t xs w) (hb : Below w.heap.size w w') : RowAt b t xs w' :=
  (hb.block b (Array.getElem?_eq_some_iff.1 h).1).trans h

/-- May a number be a rune? -/
def code (r : Int) : Bool := decide (0 ≤ r) && decide (r ≤ 1114111) && !(decide (55296 ≤ r) && decide (r ≤ 57343))
theorem code_of {r : Int} {a b c d : Bool} (h1 : decide (0 ≤ r) = a) (h2 : decide (r ≤ 1114111) = b) (h3 : decide (55296 ≤ r) = c) (h4 : decide (r ≤ 57343) = d) : code r = (a && b && !(c && d)) := by rw [code, h1, h2, h3, h4]
theorem may_any (r : Int) (w : World) : Calls Try.prog 83 #[.int .i32 r] w fun e w' => e = .returned (.bool (code r)) ∧ w' = w := by
  obtain ⟨a, ha⟩ : ∃ a, decide (0 ≤ r) = a := ⟨_, rfl⟩
  obtain ⟨b, hb⟩ : ∃ b, decide (r ≤ 1114111) = b := ⟨_, rfl⟩
  obtain ⟨c, hc⟩ : ∃ c, decide (55296 ≤ r) = c := ⟨_, rfl⟩
  obtain ⟨d, hd⟩ : ∃ d, decide (r ≤ 57343) = d := ⟨_, rfl⟩
  rw [code_of ha hb hc hd]
  cases a <;> cases b <;> cases c <;> cases d <;>
  (go_enter Try.func83, Try.ntmps83
   go_wp2
   go_ret
   exact ⟨rfl, rfl⟩)

/-- The slots of a chunk of these runes, and its value. -/
def slots (l : List Int) : List Int := l.map (· + 1) ++ List.replicate (32 - l.length) 0
def cv (l : List Int) : Value := .agg (row (slots l))
def Chunky (l : List Int) : Prop := l.length ≤ 32 ∧ ∀ r ∈ l, 0 ≤ r ∧ r ≤ 1114111
theorem slots_len {l : List Int} (h : l.length ≤ 32) : (slots l).length = 32 := by simp [slots]; omega
theorem slots_in {l : List Int} {j : Nat} (h : j < l.length) : (slots l).getD j 0 = l.getD j 0 + 1 := by
  simp [slots, List.getD, List.getElem?_append_left, h]
theorem slots_out {l : List Int} {j : Nat} (h : l.length ≤ j) : (slots l).getD j 0 = 0 := by
  simp only [slots, List.getD]
  rw [List.getElem?_append_right (by simpa using h), List.getElem?_replicate]
  split <;> rfl
theorem info_chunk : (Try.prog.info? 58).map (·.size) = some 32 := by kernel_rfl
theorem info_slots : (Try.prog.info? 56).map (·.size) = some 32 := by kernel_rfl

theorem len_any (l : List Int) (h : Chunky l) (w : World) : Calls Try.prog 47 #[cv l] w fun e w' => e = .returned (.int .i64 (l.length : Nat)) ∧ Below w.heap.size w w' := by
  obtain ⟨h32, hr⟩ := h
  have hL := slots_len h32
  have HB : Below w.heap.size w (w.alloc (.cells (row (slots l)) 58)) := (Below.refl _ _).alloc (Nat.le_refl _) _
  have R := rowAt_new w 58 (slots l)
  unfold cv
  go_enter Try.func47, Try.ntmps47
  go_wp2
  go_loop [4] (fun i => ∃ k : Nat, k ≤ l.length ∧ i = .int .i64 k) (fun i => 32 - (intOf i).toNat)
  case atStart => exact ⟨0, Nat.zero_le _, rfl⟩
  case round =>
    obtain ⟨k, hk, rfl⟩ := hrel
    have i0 : (0 : Int) ≤ (k : Int) := by omega
    by_cases hlt : k < l.length
    · have hc := R.cell (j := k) (by omega)
      rw [slots_in hlt] at hc
      have h0 : (l.getD k 0 + 1 == 0) = false := by
        have := hr (l.getD k 0) (by simp [List.getD, hlt])
        rw [beq_eq_false_iff_ne]; omega
      have i1 : (k : Int) < 32 := by omega
      obtain ⟨x, hx⟩ : ∃ x, l.getD k 0 + 1 = x := ⟨_, rfl⟩
      rw [hx] at hc h0
      clear R HB hr hL hx
      go_wp2
      go_round
      case rel => exact ⟨k + 1, by omega, by go_num⟩
      case measure => simp [intOf]; omega
    · obtain rfl : k = l.length := by omega
      by_cases h32' : l.length < 32
      · have hc := R.cell (j := l.length) (by omega)
        rw [slots_out (Nat.le_refl _)] at hc
        have i1 : (l.length : Int) < 32 := by omega
        clear R hr hL
        go_wp2
        go_ret
        exact ⟨rfl, HB⟩
      · have i1 : ¬ (l.length : Int) < 32 := by omega
        have e32 : l.length = 32 := by omega
        clear R hr hL
        go_wp2
        go_ret
        exact ⟨ret_int (by omega), HB⟩
end Go.Proofs.Ytjgfgpkaeddjhaa
