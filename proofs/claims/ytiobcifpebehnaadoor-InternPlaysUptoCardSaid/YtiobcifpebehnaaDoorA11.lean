
import Derived.Test.YtiobcifpebehnaaDoorA10
import Derived.Laws.Cover3
/- A11: Clone, Copy -/
namespace Go.Proofs.YtiobcifpebehnaaDoor
open Go.RowKit
set_option linter.unusedVariables false

theorem own5_nil (w0 w : World) : Own5 w0 w (.slice none 0 0) [] := ⟨rfl, .inl ⟨rfl, rfl⟩⟩

theorem owns_none (w : World) (e : TypeId) (m : Nat) : (w.alloc (.cells #[] e)).ownsRow w.heap.size e m (.slice (some ⟨w.heap.size, 0, none⟩) 0 0) 0 [] :=
  ⟨by simp, .inr ⟨w.heap.size, 0, #[], rfl, Nat.le_refl _, heap_alloc_new w _, Nat.le_refl _, by simp, by simp, by simp⟩⟩
theorem row_new0 (w : World) (a : Att) (t : TypeId) : Arow (w.alloc (.cells (aca a) t)) (.slice (some ⟨w.heap.size, 0, none⟩) 1 1) [a] := Row.built (C := attC) w t [a] (by simp [maxLen])
theorem row_new1 (w : World) (o : Obj) (a : Att) (t : TypeId) : Arow ((w.alloc o).alloc (.cells (aca a) t)) (.slice (some ⟨w.heap.size + 1, 0, none⟩) 1 1) [a] := by
  have h := row_new0 (w.alloc o) a t
  simp only [World.size_alloc] at h
  exact h
theorem nil_eql (a : Option Addr) (l c : Nat) (w : World) : (binOp .eql 37 (.slice a l c) (.slice none 0 0)).run Tryd.prog w = .ok (.bool a.isNone) w := by
  simp only [binOp, Sem.run_bind, run_equal_slice_nil w 37 47 a l c Tryd.underlying37, Result.andThen_ok, Sem.run_pure]

set_option maxRecDepth 100000 in
theorem clone_any5 (v : Value) (xs : List Att) (w : World) (hv : Arow w v xs) (hl : xs.length ≤ 100000) :
    Calls Tryd.prog 55 #[v] w fun e w' => ∃ u, e = .returned u ∧ Own5 w w' u xs ∧ Below w.heap.size w w' := by
  obtain ⟨i0, hi, hz0, hz1, hz2⟩ := info_att5
  have HV := Lib.hid hv
  have hnil := fun a l c w => nil_eql a l c w
  obtain ⟨a, cap, rfl⟩ := hv.shape
  cases a with
  | none =>
    obtain ⟨rfl, rfl⟩ : xs = [] ∧ cap = 0 := by
      rcases hv with ⟨_, _, h, hx, _, h0⟩ | ⟨_, _, _, h, _⟩
      · injection h with h1 _ h3; subst hx; exact ⟨rfl, by rw [h3]; exact h0 h1.symm⟩
      · injection h with h1; cases h1
    clear hv HV
    go_enter Tryd.func55, Tryd.ntmps55
    go_wp2
    go_ret
    exact ⟨_, rfl, own5_nil _ _, Below.refl _ _⟩
  | some a =>
    clear hv
    have hB := (Below.refl w.heap.size w).alloc (Nat.le_refl _) (.cells #[] 47)
    go_enter Tryd.func55, Tryd.ntmps55
    go_wp2_with (at_builtin; refine wpList_append_row (C := attC) rfl (.tmp 5) (.tmp 6) 37 rfl w.heap.size 47 i0 (av noAtt) 48 Tryd.underlying37 hi hz0 hz1 hz2 rfl _ 0 [] rfl (owns_none w 47 5) _ xs rfl (HV.out.below hB (Nat.le_refl _)) (by unfold maxLen; omega) (by omega) (by simp) ?_; intro v3 w3 hown3 hgrow3)
    go_ret
    refine ⟨_, rfl, ?_, hB.grown hgrow3 (by simp) (fun j hj => own_base (owns_none w 47 5) hj)⟩
    have h : w3.ownsRow w.heap.size 47 attC.m v3 (0 + xs.length) ([] ++ fl attC xs) := hown3
    rw [Nat.zero_add, List.nil_append] at h
    exact h

/-- Copy: the same, in memory of the call's own. -/
theorem copy_any5 (v : Value) (xs : List Att) (w : World) (hv : Arow w v xs) (hl : xs.length ≤ 100000) :
    Calls Tryd.prog 46 #[v] w fun e w' => ∃ u, e = .returned u ∧ Own5 w w' u xs ∧ Below w.heap.size w w' := by
  have HC := Lib.hid (clone_any5 v xs w hv hl)
  clear hv
  go_enter Tryd.func46, Tryd.ntmps46
  go_wp2_with (go_at_call 55; refine HC.out.mono ?_; rintro e w1 ⟨u, rfl, HR⟩)
  go_ret
  exact ⟨u, rfl, HR⟩
end Go.Proofs.YtiobcifpebehnaaDoor
