
import Derived.Test.YthbehjilabedoaaA21
/- A26: attributes put in in one order, and in the other -/
namespace Go.Proofs.Ythbehjilabedoaa
open Go.RowKit
set_option linter.unusedVariables false

theorem getA_with {xs : List Att} (x : Att) (key : Int) (hr : Rise xs) : getA (with5 xs x) key = if x.key = key then some x else getA xs key := by
  split
  · rename_i h
    subst h
    exact getA_mem (rise_with x hr) (with_mem.2 (.inl rfl))
  · rename_i h
    cases hg : getA xs key with
    | none =>
      rw [getA_none] at *
      intro a ha
      rcases with_mem.1 ha with rfl | ⟨ha, _⟩
      · exact h
      · exact hg a ha
    | some b =>
      obtain ⟨hb, hk⟩ := getA_some hg
      have := getA_mem (rise_with x hr) (a := b) (with_mem.2 (.inr ⟨hb, by rw [hk]; exact fun e => h e.symm⟩))
      rw [hk] at this
      exact this
theorem get_ext {a b : List Att} (ha : Rise a) (hb : Rise b) (h : ∀ key, getA a key = getA b key) : a = b := by
  refine rise_ext a b ha hb fun x => ⟨fun hx => ?_, fun hx => ?_⟩
  · have := getA_mem ha hx
    rw [h] at this
    exact (getA_some this).1
  · have := getA_mem hb hx
    rw [← h] at this
    exact (getA_some this).1
/-- All put in, one behind the other. -/
def putA (l : List Att) : List Att := l.foldl with5 []
theorem putA_snoc {l : List Att} {k : Nat} (h : k < l.length) : putA (l.take (k + 1)) = with5 (putA (l.take k)) l[k] := by unfold putA; rw [atake_snoc h, List.foldl_append]; rfl
theorem putA_app (l : List Att) (x : Att) : putA (l ++ [x]) = with5 (putA l) x := by unfold putA; rw [List.foldl_append]; rfl
theorem putA_rise (l : List Att) : Rise (putA l) := by
  have : ∀ (m s : List Att), Rise s → Rise (m.foldl with5 s) := by
    intro m
    induction m with
    | nil => exact fun s h => h
    | cons x r ih => exact fun s h => ih _ (rise_with x h)
  exact this l [] rise_nil
theorem putA_len (l : List Att) : (putA l).length ≤ l.length := by
  have : ∀ (m s : List Att), (m.foldl with5 s).length ≤ s.length + m.length := by
    intro m
    induction m with
    | nil => intro s; simp
    | cons x r ih => intro s; have := ih (with5 s x); have := with_len s x; simp; omega
  simpa [putA] using this l []
/-- The ones that are not there put in. -/
def newA (s : List Att) (x : Att) : List Att := if (getA s x.key).isSome then s else with5 s x
def putN (l : List Att) : List Att := l.foldl newA []
theorem newA_yes {s : List Att} {x : Att} {b : Att} (h : getA s x.key = some b) : newA s x = s := by unfold newA; rw [h]; rfl
theorem newA_no {s : List Att} {x : Att} (h : getA s x.key = none) : newA s x = with5 s x := by unfold newA; rw [h]; rfl
theorem putN_snoc {l : List Att} {k : Nat} (h : k < l.length) : putN (l.take (k + 1)) = newA (putN (l.take k)) l[k] := by unfold putN; rw [atake_snoc h, List.foldl_append]; rfl
theorem newA_rise {s : List Att} (x : Att) (h : Rise s) : Rise (newA s x) := by
  unfold newA
  split
  · exact h
  · exact rise_with x h
theorem putN_rise (l : List Att) : Rise (putN l) := by
  have : ∀ (m s : List Att), Rise s → Rise (m.foldl newA s) := by
    intro m
    induction m with
    | nil => exact fun s h => h
    | cons x r ih => exact fun s h => ih _ (newA_rise x h)
  exact this l [] rise_nil
theorem putN_len (l : List Att) : (putN l).length ≤ l.length := by
  have : ∀ (m s : List Att), (m.foldl newA s).length ≤ s.length + m.length := by
    intro m
    induction m with
    | nil => intro s; simp
    | cons x r ih =>
      intro s
      have h1 := ih (newA s x)
      have h2 : (newA s x).length ≤ s.length + 1 := by
        unfold newA
        split
        · omega
        · exact with_len s x
      simp; omega
  simpa [putN] using this l []
theorem getA_newA (s : List Att) (x : Att) (key : Int) (hr : Rise s) : getA (newA s x) key = (getA s key).or (if x.key = key then some x else none) := by
  cases h : getA s x.key with
  | some b =>
    rw [newA_yes h]
    split
    · rename_i e; subst e; rw [h]; rfl
    · cases getA s key <;> rfl
  | none =>
    rw [newA_no h, getA_with x key hr]
    split
    · rename_i e; subst e; rw [h]; rfl
    · cases getA s key <;> rfl
theorem getA_putN (key : Int) : ∀ (l s : List Att), Rise s → getA (l.foldl newA s) key = (getA s key).or (l.find? fun a => a.key == key)
  | [], s, _ => by simp
  | x :: r, s, h => by
    rw [List.foldl_cons, getA_putN key r _ (newA_rise x h), getA_newA s x key h, List.find?_cons]
    by_cases e : x.key = key
    · simp only [e, if_true, beq_self_eq_true]
      cases getA s key <;> rfl
    · have e2 : (x.key == key) = false := by simpa using e
      simp only [e, if_false, e2]
      cases getA s key <;> rfl
theorem getA_putA (key : Int) (l : List Att) : getA (putA l) key = l.reverse.find? fun a => a.key == key := by
  have : ∀ m : List Att, getA (putA m.reverse) key = m.find? fun a => a.key == key := by
    intro m
    induction m with
    | nil => rfl
    | cons x r ih =>
      rw [List.reverse_cons, putA_app, getA_with x key (putA_rise _), ih, List.find?_cons]
      by_cases e : x.key = key
      · simp [e]
      · have e2 : (x.key == key) = false := by simpa using e
        simp [e, e2]
  have h := this l.reverse
  rwa [List.reverse_reverse] at h
/-- In one order, each that comes later in place of the other; in the other order, those that are not there alone: one set. -/
theorem put_both (l : List Att) : putA l = putN l.reverse :=
  get_ext (putA_rise _) (putN_rise _) fun key => by rw [getA_putA]; unfold putN; rw [getA_putN key _ _ rise_nil]; rfl
theorem back_att {xs : List Att} {k : Nat} (hk : k < xs.length) : xs.reverse[k]'(by simpa using hk) = xs[xs.length - 1 - k]'(by omega) := by simp
theorem without_len {xs : List Att} (key : Int) (hr : Rise xs) : (without5 xs key).length + (if (getA xs key).isSome then 1 else 0) = xs.length := by
  unfold without5 lo5 hi5
  induction xs with
  | nil => rfl
  | cons x r ih =>
    obtain ⟨h1, h2⟩ := List.pairwise_cons.1 hr
    have ih := ih h2
    simp only [List.filter_cons]
    unfold getA at *
    rw [List.find?_cons]
    by_cases q1 : x.key < key
    · have e1 : (x.key == key) = false := by simp; omega
      have e3 : ¬ key < x.key := by omega
      simp [q1, e1, e3] at ih ⊢
      omega
    · have hall : ∀ y ∈ r, ¬ y.key < key := fun y hy => by have := h1 y hy; omega
      have e0 : r.filter (fun a => decide (a.key < key)) = [] := filter_none (fun y hy => by simpa using hall y hy)
      rw [e0] at ih ⊢
      by_cases q2 : x.key = key
      · have e4 : r.filter (fun a => decide (key < a.key)) = r := filter_all (fun y hy => by have := h1 y hy; simp; omega)
        have e5 : ¬ key < x.key := by omega
        simp [q2, e4]
      · have e1 : (x.key == key) = false := by simpa using q2
        have e3 : key < x.key := by omega
        simp [q1, e1, e3] at ih ⊢
        omega
theorem get_without {xs : List Att} (key : Int) : getA (without5 xs key) key = none := getA_none.2 fun a ha => (without_mem.1 ha).2
end Go.Proofs.Ythbehjilabedoaa
