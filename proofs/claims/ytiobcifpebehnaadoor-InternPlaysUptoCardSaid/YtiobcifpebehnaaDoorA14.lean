
import Derived.Test.YtiobcifpebehnaaDoorA13
/- A14: the reference's With -/
namespace Go.Proofs.YtiobcifpebehnaaDoor
open Go.RowKit
set_option linter.unusedVariables false

/-- What the reference's loop does with one attribute more. -/
def wstep (a : Att) (s : List Att × Bool) (x : Att) : List Att × Bool := if !s.2 && decide (a.key < x.key) then (s.1 ++ [a] ++ [x], true) else (s.1 ++ [x], s.2)
def wfold (a : Att) (l : List Att) : List Att × Bool := l.foldl (wstep a) ([], false)
theorem wfold_nil (a : Att) : wfold a [] = ([], false) := rfl
theorem wfold_snoc (a : Att) {l : List Att} {k : Nat} (h : k < l.length) : wfold a (l.take (k + 1)) = wstep a (wfold a (l.take k)) l[k] := by
  unfold wfold; rw [atake_snoc h, List.foldl_append]; rfl
theorem wfold_end (a : Att) (l : List Att) : wfold a (l.take l.length) = wfold a l := by rw [List.take_of_length_le (Nat.le_refl _)]
def wdone (a : Att) (l : List Att) : List Att := if (wfold a l).2 then (wfold a l).1 else (wfold a l).1 ++ [a]
theorem wfold_len (a : Att) (l : List Att) (k : Nat) (h : k ≤ l.length) : (wfold a (l.take k)).1.length ≤ k + 1 ∧ ((wfold a (l.take k)).2 = false → (wfold a (l.take k)).1.length ≤ k) := by
  induction k with
  | zero => simp [wfold_nil]
  | succ k ih =>
    obtain ⟨h1, h2⟩ := ih (by omega)
    rw [wfold_snoc a (by omega)]
    unfold wstep
    cases hb : (wfold a (l.take k)).2
    · have := h2 hb
      split <;> simp <;> omega
    · simp; omega
theorem wfold_below (a : Att) : ∀ (l : List Att) (s : List Att × Bool), (∀ x ∈ l, x.key < a.key) → l.foldl (wstep a) s = (s.1 ++ l, s.2)
  | [], s, _ => by simp
  | x :: r, s, h => by
    have hx := h x (by simp)
    have e : wstep a s x = (s.1 ++ [x], s.2) := by
      unfold wstep; rw [if_neg]; simp; intro _; omega
    rw [List.foldl_cons, e, wfold_below a r _ (fun y hy => h y (by simp [hy]))]
    simp
theorem wfold_in (a : Att) : ∀ (l : List Att) (s : List Att), l.foldl (wstep a) (s, true) = (s ++ l, true)
  | [], s => by simp
  | x :: r, s => by
    have e : wstep a (s, true) x = (s ++ [x], true) := by unfold wstep; simp
    rw [List.foldl_cons, e, wfold_in a r]
    simp
/-- Of keys that rise, the reference's With is the set with the attribute in its place. -/
theorem wdone_eq {xs : List Att} (a : Att) (hr : Rise xs) : wdone a (wout5 xs a.key) = with5 xs a := by
  have hw : wout5 xs a.key = lo5 xs a.key ++ hi5 xs a.key := by
    unfold wout5 lo5 hi5
    induction xs with
    | nil => rfl
    | cons x r ih =>
      obtain ⟨h1, h2⟩ := List.pairwise_cons.1 hr
      have ih := ih h2
      simp only [List.filter_cons]
      by_cases q1 : x.key < a.key
      · have e1 : (x.key != a.key) = true := by simp; omega
        have e3 : ¬ a.key < x.key := by omega
        simp [e1, q1, e3, ih]
      · have hall : ∀ y ∈ r, ¬ y.key < a.key := fun y hy => by have := h1 y hy; omega
        have e0 : r.filter (fun a_1 => decide (a_1.key < a.key)) = [] := filter_none (fun y hy => by simpa using hall y hy)
        rw [e0, List.nil_append] at ih
        by_cases q2 : x.key = a.key
        · simp [q2, e0, ih]
        · have e1 : (x.key != a.key) = true := by simpa using q2
          have e3 : a.key < x.key := by omega
          simp [e1, q1, e3, e0, ih]
  unfold wdone
  have h1 : wfold a (wout5 xs a.key) = (hi5 xs a.key).foldl (wstep a) (lo5 xs a.key, false) := by
    unfold wfold
    rw [hw, List.foldl_append, wfold_below a (lo5 xs a.key) ([], false) (fun x hx => by have := (List.mem_filter.1 hx).2; simpa using this)]
    simp
  rw [h1]
  unfold with5
  cases hh : hi5 xs a.key with
  | nil => simp
  | cons y r =>
    have hy : a.key < y.key := by
      have : y ∈ hi5 xs a.key := by rw [hh]; simp
      simpa using (List.mem_filter.1 this).2
    have e : wstep a (lo5 xs a.key, false) y = (lo5 xs a.key ++ [a] ++ [y], true) := by unfold wstep; simp [hy]
    rw [List.foldl_cons, e, wfold_in]
    simp

theorem _root_.Go.RowKit.Below.drewN' {B : Nat} {a w : World} (h : Below B a w) (n : Nat) : Below B a (w.drewN n) := h.trans ⟨rfl, rfl, rfl, Nat.le_refl _, fun _ _ => rfl⟩

/-- The loop's state. -/
def WithRel (W : World) (a : Att) (l : List Att) (k : Nat) (v : Value) (b : Bool) (wr : World) : Prop := b = (wfold a (l.take k)).2 ∧ Grows W (wfold a (l.take k)).1 v wr
theorem with_next {W wr : World} {a : Att} {l : List Att} {k : Nat} {v : Value} {b : Bool} {ls : List Att} (hlt : k < l.length) (hs : wstep a (wfold a (l.take k)) l[k] = (ls, b)) (hg : Grows W ls v wr) : WithRel W a l (k + 1) v b wr := by
  unfold WithRel
  rw [wfold_snoc a hlt, hs]
  exact ⟨rfl, hg⟩

end Go.Proofs.YtiobcifpebehnaaDoor
