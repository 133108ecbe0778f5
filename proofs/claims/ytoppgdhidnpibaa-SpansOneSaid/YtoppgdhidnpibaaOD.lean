
import Derived.Test.YtoppgdhidnpibaaOC
/- OD: the rune at a place; all runes -/
namespace Go.Proofs.Ytoppgdhidnpibaa
open Go.RowKit
set_option linter.unusedVariables false

/-- A whole row out of its block, at an operation that is wanted, whatever it is guarded by. -/
theorem wpList_load_roww {P : Program} {ops : Array Oper} {rest : List Oper} {o : Oper} {a : Act} {w : World} {Q : Exit → Act → World → Prop} (ty : TypeId) (x : Operand) (ho : o.op = .load ty x)
    (g : Nat) (hx : a.eval x = .pointer (some ⟨g, 0, none⟩)) (hw : Region.wanted o (yielded ops a.tmps) = true) (t : TypeId) (cs : Array Value) (fr : Nat × Nat) (d : TypeDesc) (hg : w.heap[g]? = some (.cells cs t fr))
    (hu : P.underlying ty = some d) (hd : (match d with | .struct _ | .array _ _ => true | _ => false) = true) (hi : (P.info? ty).map (·.size) = some cs.size)
    (h : wpList P ops Q rest (a.put o.dst (.agg cs)) w) : wpList P ops Q (o :: rest) a w :=
  wpList_step fun K hK => by
    rw [if_pos hw]
    exact wp_load_row ty x ho g hx t cs fr d hg hu hd hi (hK _ _ h)

/-- A slot that holds a rune, taken back to the rune. -/
theorem wrap_rune {x r : Int} (hx : x = r + 1) (h0 : 0 ≤ r) (h1 : r ≤ 1114111) : wrap32 (x - 1) = r := by
  unfold wrap32; omega
theorem wrap_slot {r : Int} (h0 : 0 ≤ r) (h1 : r ≤ 1114111) : wrap32 (r + 1) = r + 1 := by
  unfold wrap32; omega

theorem RowAt.frozen {b j : Nat} {t : TypeId} {xs : List Int} {w : World} (h : RowAt b t xs w) : w.frozen? ⟨b, j, none⟩ = false := frozen_of_row w b j _ t h
theorem RowAt.lt {b : Nat} {t : TypeId} {xs : List Int} {w : World} (h : RowAt b t xs w) : b < w.heap.size := (Array.getElem?_eq_some_iff.1 h).1
theorem row_set (xs : List Int) (j : Nat) (x : Int) : (row xs).setIfInBounds j (.int .i32 x) = row (xs.set j x) := by
  apply Array.toList_inj.1
  simp [row, List.map_set]
theorem RowAt.set {b j : Nat} {t : TypeId} {xs : List Int} {w : World} (h : RowAt b t xs w) (x : Int) : RowAt b t (xs.set j x) (w.setCell ⟨b, j, none⟩ (.int .i32 x)) := by
  show (w.setCell ⟨b, j, none⟩ _).heap[b]? = _
  rw [heap_setCell_same w b j (row xs) t _ h, row_set]
theorem RowAt.other {b c j : Nat} {t : TypeId} {xs : List Int} {w : World} (h : RowAt b t xs w) (hn : b ≠ c) (v : Value) : RowAt b t xs (w.setCell ⟨c, j, none⟩ v) :=
  (heap_setCell_other w ⟨c, j, none⟩ b v hn).trans h
theorem rowAt_of_owns {w : World} {base g n : Nat} {e : TypeId} {xs : List Int} (h : w.ownsRow base e 1 (.slice (some ⟨g, 0, none⟩) n n) n (xs.map (Value.int .i32))) : RowAt g e xs w := by
  rcases h.2 with ⟨h', _⟩ | ⟨g', cap', cur, h', hb, hg, hnc, hcm, hcs, htake⟩
  · simp at h'
  · simp only [Value.slice.injEq, Option.some.injEq, Addr.mk.injEq, and_true, true_and] at h'
    obtain ⟨rfl, rfl⟩ := h'
    have e1 : cur.toList = xs.map (Value.int .i32) := by
      rw [← htake]
      exact (List.take_of_length_le (by simp; omega)).symm
    show w.heap[g]? = _
    rw [hg, row, ← e1]
theorem RowAt.owns {w : World} {base g : Nat} {e : TypeId} {xs : List Int} (h : RowAt g e xs w) (hb : base ≤ g) (hm : xs.length ≤ maxLen) : w.ownsRow base e 1 (.slice (some ⟨g, 0, none⟩) xs.length xs.length) xs.length (xs.map (Value.int .i32)) :=
  ⟨by simp, .inr ⟨g, xs.length, row xs, rfl, hb, h, Nat.le_refl _, hm, by rw [row_size]; omega, by rw [Nat.mul_one]; refine (List.take_of_length_le (by simp [row])).trans ?_; simp [row]⟩⟩

/-- The first k of l, and noughts up to its length. -/
def mix (l : List Int) (k : Nat) : List Int := l.take k ++ List.replicate (l.length - k) 0
theorem mix_len {l : List Int} {k : Nat} (h : k ≤ l.length) : (mix l k).length = l.length := by simp [mix]; omega
theorem mix_zero (l : List Int) : mix l 0 = List.replicate l.length 0 := by simp [mix]
theorem mix_all (l : List Int) : mix l l.length = l := by simp [mix]
theorem mix_succ {l : List Int} {k : Nat} (h : k < l.length) : (mix l k).set k (l.getD k 0) = mix l (k + 1) := by
  have hk : (l.take k).length = k := by rw [List.length_take]; omega
  unfold mix
  rw [take_snoc l k h, List.set_append_right _ _ (by omega), hk, Nat.sub_self, show l.length - k = (l.length - (k + 1)) + 1 by omega, List.replicate_succ, List.set_cons_zero, List.append_assoc]
  rfl

theorem info32 : (Try.prog.info? 21).map (fun i => (i.zero, i.size, i.bytes)) = some (some (.int .i32 0), 1, 4) := by kernel_rfl

end Go.Proofs.Ytoppgdhidnpibaa
