
import Derived.Test.YtkejebjppnhidaaC16
import Derived.Test.YtkejebjppnhidaaC12
import Derived.Test.YtkejebjppnhidaaC13
import Derived.Test.YtkejebjppnhidaaC11
import Derived.Test.YtkejebjppnhidaaA13
/- C15: the contracts in the form in which the laws take them -/
namespace Go.Proofs.Ytkejebjppnhidaa
open Go.RowKit
set_option linter.unusedVariables false

theorem rows_two {w : World} {x y : Option Addr × Nat × Nat} {a b : List Att} (h1 : Arow w (slV x) a) (h2 : Arow w (slV y) b) : Rows5 w [x, y] [a, b] :=
  ⟨rfl, fun j h1' h2' => by
    match j, h1' with
    | 0, _ => exact h1
    | 1, _ => exact h2⟩
theorem rows_one {w : World} {x : Option Addr × Nat × Nat} {a : List Att} (h1 : Arow w (slV x) a) : Rows5 w [x] [a] :=
  ⟨rfl, fun j h1' h2' => by
    match j, h1' with
    | 0, _ => exact h1⟩
theorem great0_h (p : List Chg) (b : Bool) (hb : grt p [] = b) (v : Value) (W : World) (hv : Crow W v p) :
    Calls Try.prog 9 #[v, .slice none 0 0] W fun e w' => e = .returned (.bool b) ∧ Below W.heap.size W w' :=
  (great_sets none 0 0 v p [] [] W hv (Row.nil W) ⟨rfl, fun j h => by simp at h⟩).mono fun e w' ⟨he, hw⟩ => ⟨by rw [he, hb], by rw [← hw]; exact Below.refl _ _⟩
theorem great1_h (p : List Chg) (a : List Att) (b : Bool) (hb : grt p [a] = b) (v : Value) (ad : Option Addr) (n c : Nat) (W : World) (hv : Crow W v p) (ha : Arow W (.slice ad n c) a) (t : TypeId) :
    Calls Try.prog 9 #[v, .slice (some ⟨W.heap.size, 0, none⟩) 1 1] (W.alloc (.cells #[.slice ad n c] t)) fun e w' => e = .returned (.bool b) ∧ Below (W.alloc (.cells #[.slice ad n c] t)).heap.size (W.alloc (.cells #[.slice ad n c] t)) w' := by
  have hB : Below W.heap.size W (W.alloc (.cells #[.slice ad n c] t)) := (Below.refl _ _).alloc (Nat.le_refl _) _
  refine (great_sets _ 1 1 v p [(ad, n, c)] [a] _ (hv.below hB (Nat.le_refl _)) (Row.built (C := slC) W t [(ad, n, c)] (by unfold maxLen; simp)) (rows_one (ha.below hB (Nat.le_refl _)))).mono fun e w' ⟨he, hw⟩ => ⟨by rw [he, hb], by rw [← hw]; exact Below.refl _ _⟩
theorem great2_h (p : List Chg) (a a2 : List Att) (b : Bool) (hb : grt p [a, a2] = b) (v : Value) (ad : Option Addr) (n c : Nat) (ad2 : Option Addr) (n2 c2 : Nat) (W : World) (hv : Crow W v p) (ha : Arow W (.slice ad n c) a) (ha2 : Arow W (.slice ad2 n2 c2) a2) (t : TypeId) :
    Calls Try.prog 9 #[v, .slice (some ⟨W.heap.size, 0, none⟩) 2 2] (W.alloc (.cells #[.slice ad n c, .slice ad2 n2 c2] t)) fun e w' => e = .returned (.bool b) ∧ Below (W.alloc (.cells #[.slice ad n c, .slice ad2 n2 c2] t)).heap.size (W.alloc (.cells #[.slice ad n c, .slice ad2 n2 c2] t)) w' := by
  have hB : Below W.heap.size W (W.alloc (.cells #[.slice ad n c, .slice ad2 n2 c2] t)) := (Below.refl _ _).alloc (Nat.le_refl _) _
  refine (great_sets _ 2 2 v p [(ad, n, c), (ad2, n2, c2)] [a, a2] _ (hv.below hB (Nat.le_refl _)) (Row.built (C := slC) W t [(ad, n, c), (ad2, n2, c2)] (by unfold maxLen; simp)) (rows_two (ha.below hB (Nat.le_refl _)) (ha2.below hB (Nat.le_refl _)))).mono fun e w' ⟨he, hw⟩ => ⟨by rw [he, hb], by rw [← hw]; exact Below.refl _ _⟩
theorem riseA_h (a : List Att) (b : Bool) (hb : decide (Rise a) = b) (v : Value) (W : World) (hv : Arow W v a) :
    Calls Try.prog 21 #[v] W fun e w' => e = .returned (.bool b) ∧ Below W.heap.size W w' :=
  (rising_any5 v a W hv).mono fun e w' ⟨he, q, hw⟩ => ⟨by rw [he, hb], by rw [hw]; exact blw_drewN (Below.refl _ _) q⟩
theorem riseC_h (a : List Chg) (b : Bool) (hb : decide (RiseC a) = b) (v : Value) (W : World) (hv : Crow W v a) :
    Calls Try.prog 19 #[v] W fun e w' => e = .returned (.bool b) ∧ Below W.heap.size W w' :=
  (rising_any6 v a W hv).mono fun e w' ⟨he, q, hw⟩ => ⟨by rw [he, hb], by rw [hw]; exact blw_drewN (Below.refl _ _) q⟩
theorem sameA_h (a b : List Att) (h : a = b) (v1 v2 : Value) (W : World) (h1 : Arow W v1 a) (h2 : Arow W v2 b) :
    Calls Try.prog 22 #[v1, v2] W fun e w' => e = .returned (.bool true) ∧ Below W.heap.size W w' :=
  (rsame_any5 v1 v2 a b W h1 h2).mono fun e w' ⟨he, q, hw⟩ => ⟨by rw [he, decide_eq_true h], by rw [hw]; exact blw_drewN (Below.refl _ _) q⟩
theorem sameC_h (a b : List Chg) (s : Bool) (h : decide (a = b) = s) (v1 v2 : Value) (W : World) (h1 : Crow W v1 a) (h2 : Crow W v2 b) :
    Calls Try.prog 15 #[v1, v2] W fun e w' => e = .returned (.bool s) ∧ Below W.heap.size W w' :=
  (same_any6 v1 v2 a b W h1 h2).mono fun e w' ⟨he, hw⟩ => ⟨by rw [he, h], hw⟩
theorem rsameC_h (a b : List Chg) (s : Bool) (h : decide (a = b) = s) (v1 v2 : Value) (W : World) (h1 : Crow W v1 a) (h2 : Crow W v2 b) :
    Calls Try.prog 16 #[v1, v2] W fun e w' => e = .returned (.bool s) ∧ Below W.heap.size W w' :=
  (rsame_any6 v1 v2 a b W h1 h2).mono fun e w' ⟨he, q, hw⟩ => ⟨by rw [he, h], by rw [hw]; exact blw_drewN (Below.refl _ _) q⟩
theorem app_h (a : List Att) (p : List Chg) (l : List Att) (h : app a p = l) (hl : a.length + p.length ≤ 1000000000) (v1 v2 : Value) (W : World) (h1 : Arow W v1 a) (h2 : Crow W v2 p) :
    Calls Try.prog 23 #[v1, v2] W fun e w' => ∃ u, e = .returned u ∧ Hid (Arow w' u l) ∧ Below W.heap.size W w' :=
  (apply_any v1 v2 a p W h1 h2 hl).mono fun e w' ⟨u, he, ho, hb⟩ => ⟨u, he, Lib.hid (by rw [← h]; exact Own5.row ho), hb⟩
theorem comp_h (a p l : List Chg) (h : comp a p = l) (hl : a.length + p.length ≤ 1000000000) (v1 v2 : Value) (W : World) (h1 : Crow W v1 a) (h2 : Crow W v2 p) :
    Calls Try.prog 24 #[v1, v2] W fun e w' => ∃ u, e = .returned u ∧ Hid (Crow w' u l) ∧ Below W.heap.size W w' :=
  (compose_any v1 v2 a p W h1 h2 (by omega)).mono fun e w' ⟨u, he, ho, hb⟩ => ⟨u, he, Lib.hid (by rw [← h]; exact own6_row ho), hb⟩
theorem less_h (a p l : List Chg) (h : less a p = l) (hl : a.length + p.length ≤ 1000000000) (v1 v2 : Value) (W : World) (h1 : Crow W v1 a) (h2 : Crow W v2 p) :
    Calls Try.prog 27 #[v1, v2] W fun e w' => ∃ u, e = .returned u ∧ Hid (Crow w' u l) ∧ Below W.heap.size W w' :=
  (less_any6 v1 v2 a p W h1 h2 (by omega)).mono fun e w' ⟨u, he, ho, hb⟩ => ⟨u, he, Lib.hid (by rw [← h]; exact own6_row ho), hb⟩
theorem diff_h (a b : List Att) (l : List Chg) (h : diff6 a b = l) (hl : a.length + b.length ≤ 1000000000) (v1 v2 : Value) (W : World) (h1 : Arow W v1 a) (h2 : Arow W v2 b) :
    Calls Try.prog 26 #[v1, v2] W fun e w' => ∃ u, e = .returned u ∧ Hid (Crow w' u l) ∧ Below W.heap.size W w' :=
  (diff_any v1 v2 a b W h1 h2 hl).mono fun e w' ⟨u, he, ho, hb⟩ => ⟨u, he, Lib.hid (by rw [← h]; exact own6_row ho), hb⟩
theorem inv_h (a : List Att) (p l : List Chg) (h : inv a p = l) (hl : a.length + p.length ≤ 100000000) (v1 v2 : Value) (W : World) (h1 : Arow W v1 a) (h2 : Crow W v2 p) :
    Calls Try.prog 25 #[v1, v2] W fun e w' => ∃ u, e = .returned u ∧ Hid (Crow w' u l) ∧ Below W.heap.size W w' :=
  (invert_any v1 v2 a p W h1 h2 hl).mono fun e w' ⟨u, he, ho, hb⟩ => ⟨u, he, Lib.hid (by rw [← h]; exact own6_row ho), hb⟩
theorem known_h (W : World) : Calls Try.prog 10 #[] W fun e w' => e = .returned (.bool true) ∧ Below W.heap.size W w' := known_any6 W
/-- The empty one, wherever it is told. -/
theorem crow_nil (W : World) : Crow W (.slice none 0 0) [] := Row.nil W
theorem totC_len {p : List Chg} {n : Nat} (h : totC p ≤ n) : p.length ≤ n := by unfold totC at h; omega
theorem totA_len {p : List Att} {n : Nat} (h : totA p ≤ n) : p.length ≤ n := by unfold totA at h; omega
end Go.Proofs.Ytkejebjppnhidaa
