
import Derived.Test.YtiobcifpebehnaaDoorI15
/- I16: Add, whatever the set -/
namespace Go.Proofs.YtiobcifpebehnaaDoor
open Go.RowKit
set_option linter.unusedVariables false

theorem add7_any {B : Nat} {S : Nat → Prop} {tb : Nat} {T : TabS} {n : Nat} (v : Value) (x : List Att) (w : World) (h : Tb B S tb T n w) (hv : Arow w v x) (hW : ∀ a ∈ x, AttW a) (hn : n ≤ 1000000) (htab : Tab B w) (hvS : Outs S v) :
    Calls Tryd.prog 14 #[.pointer (some ⟨tb, 0, none⟩), v] w (AddP B S tb T n x w) := by
  by_cases hm : may5 T.ks x = 0
  · cases hl : T.look x with
    | some i => exact add_there v x w h hv hW hm hn htab hl
    | none => exact add_new v x w h hv hW hm hn htab hl hvS
  · exact add_bad v x w h hv hW hm

/-- What lies below B lies outside of what is made from B on. -/
theorem outs_below {α : Type} {C : Cel α} {B : Nat} {S : Nat → Prop} {w : World} {v : Value} {x : List α} (hv : Row C w v x) (hB : w.heap.size ≤ B) (hS : ∀ k, S k → B ≤ k) : Outs S v ∨ x = [] := by
  rcases hv with ⟨a, cap, rfl, rfl, -⟩ | ⟨b, off, cap, rfl, h0, h1, h2, h3⟩
  · exact .inr rfl
  · refine .inl fun b' o l c e hs => ?_
    injection e with e
    injection e with e
    injection e with e
    subst e
    have := hS _ hs
    have hp : 0 < (fl C x).length := by rw [fl_len]; exact Nat.mul_pos h0 C.pos
    have := World.block_lt_of_cell? w _ (h3 0 _ (List.getElem?_eq_getElem hp))
    simp at this
    omega
end Go.Proofs.YtiobcifpebehnaaDoor
