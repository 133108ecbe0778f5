
import Derived.Test.YtiobcifpebehnaaDoorA6
/- A7: around, Get -/
namespace Go.Proofs.YtiobcifpebehnaaDoor
open Go.RowKit
set_option linter.unusedVariables false

/-- The attributes below a key, above it; the one with it. -/
def lo5 (xs : List Att) (key : Int) : List Att := xs.filter fun a => decide (a.key < key)
def hi5 (xs : List Att) (key : Int) : List Att := xs.filter fun a => decide (key < a.key)
def getA (xs : List Att) (key : Int) : Option Att := xs.find? fun a => a.key == key

theorem turn_take {xs : List Att} {key : Int} {i : Nat} (hr : Rise xs) (ht : Turn (geAt xs key) xs.length i) : ∀ a ∈ xs.take i, a.key < key := by
  intro a ha
  obtain ⟨j, hj, rfl⟩ := List.mem_iff_getElem.1 ha
  rw [List.length_take] at hj
  rw [List.getElem_take]
  have h1 := ht.2.2 (by omega)
  have hin := ht.1
  have hlt : i - 1 < xs.length := by omega
  rw [geAt_of hlt, decide_eq_false_iff_not] at h1
  by_cases e : j = i - 1
  · subst e; omega
  · have := List.pairwise_iff_getElem.1 hr j (i - 1) (by omega) hlt (by omega)
    omega
theorem turn_drop {xs : List Att} {key : Int} {i : Nat} (hr : Rise xs) (ht : Turn (geAt xs key) xs.length i) : ∀ a ∈ xs.drop i, key ≤ a.key := by
  intro a ha
  obtain ⟨j, hj, rfl⟩ := List.mem_iff_getElem.1 ha
  rw [List.length_drop] at hj
  rw [List.getElem_drop]
  have hlt : i < xs.length := by omega
  have h1 := ht.2.1 hlt
  rw [geAt_of hlt, decide_eq_true_iff] at h1
  by_cases e : j = 0
  · subst e; exact h1
  · have := List.pairwise_iff_getElem.1 hr i (i + j) hlt (by omega) (by omega)
    omega
theorem filter_all {α : Type} {p : α → Bool} {l : List α} (h : ∀ a ∈ l, p a = true) : l.filter p = l := List.filter_eq_self.2 h
theorem filter_none {α : Type} {p : α → Bool} {l : List α} (h : ∀ a ∈ l, p a = false) : l.filter p = [] := List.filter_eq_nil_iff.2 fun a ha => by rw [h a ha]; exact Bool.false_ne_true
theorem turn_lo {xs : List Att} {key : Int} {i : Nat} (hr : Rise xs) (ht : Turn (geAt xs key) xs.length i) : xs.take i = lo5 xs key := by
  have h1 := turn_take hr ht
  have h2 := turn_drop hr ht
  unfold lo5
  conv => rhs; rw [← List.take_append_drop i xs]
  rw [List.filter_append, filter_all (fun a ha => by simpa using h1 a ha), filter_none (fun a ha => by have := h2 a ha; simp; omega), List.append_nil]
theorem turn_hi_no {xs : List Att} {key : Int} {i : Nat} (hr : Rise xs) (ht : Turn (geAt xs key) xs.length i) (hn : thereB xs key i = false) : xs.drop i = hi5 xs key ∧ getA xs key = none := by
  have h1 := turn_take hr ht
  have h2 := turn_drop hr ht
  have h3 : ∀ a ∈ xs.drop i, key < a.key := by
    intro a ha
    obtain ⟨j, hj, rfl⟩ := List.mem_iff_getElem.1 ha
    rw [List.length_drop] at hj
    have hlt : i < xs.length := by omega
    rw [thereB_in hlt] at hn
    have hne : xs[i].key ≠ key := by simpa using hn
    have h0 := h2 xs[i] (by rw [List.drop_eq_getElem_cons hlt]; exact List.mem_cons_self)
    rw [List.getElem_drop]
    by_cases e : j = 0
    · subst e; simp only [Nat.add_zero]; omega
    · have := List.pairwise_iff_getElem.1 hr i (i + j) hlt (by omega) (by omega)
      omega
  refine ⟨?_, ?_⟩
  · unfold hi5
    conv => rhs; rw [← List.take_append_drop i xs]
    rw [List.filter_append, filter_none (fun a ha => by have := h1 a ha; simp; omega), filter_all (fun a ha => by simpa using h3 a ha), List.nil_append]
  · unfold getA
    rw [List.find?_eq_none]
    intro a ha
    rw [← List.take_append_drop i xs] at ha
    rcases List.mem_append.1 ha with ha | ha
    · have := h1 a ha; simp; omega
    · have := h3 a ha; simp; omega
theorem turn_hi_yes {xs : List Att} {key : Int} {i : Nat} (hr : Rise xs) (hlt : i < xs.length) (ht : Turn (geAt xs key) xs.length i) (hk : xs[i].key = key) : xs.drop (i + 1) = hi5 xs key ∧ getA xs key = some xs[i] := by
  have h1 := turn_take hr ht
  have h3 : ∀ a ∈ xs.drop (i + 1), key < a.key := by
    intro a ha
    obtain ⟨j, hj, rfl⟩ := List.mem_iff_getElem.1 ha
    rw [List.length_drop] at hj
    rw [List.getElem_drop]
    have := List.pairwise_iff_getElem.1 hr i (i + 1 + j) hlt (by omega) (by omega)
    omega
  have e : xs = xs.take i ++ (xs[i] :: xs.drop (i + 1)) := by rw [← List.drop_eq_getElem_cons hlt, List.take_append_drop]
  generalize xs[i] = x at *
  refine ⟨?_, ?_⟩
  · unfold hi5
    conv => rhs; rw [e]
    rw [List.filter_append, filter_none (fun a ha => by have := h1 a ha; simp; omega), List.nil_append, List.filter_cons, if_neg (by simp; omega), filter_all (fun a ha => by simpa using h3 a ha)]
  · unfold getA
    conv => lhs; rw [e]
    rw [List.find?_append, List.find?_eq_none.2 (fun a ha => by have := h1 a ha; simp; omega), List.find?_cons]
    simp [hk]

/-- What around answers: the parts, and, of keys that rise, which ones. -/
def Parts (xs : List Att) (key : Int) (ys zs : List Att) : Prop := ys.length ≤ xs.length ∧ zs.length ≤ xs.length ∧ (Rise xs → ys = lo5 xs key ∧ zs = hi5 xs key)
theorem parts_no {xs : List Att} {key : Int} {i : Nat} (ht : Turn (geAt xs key) xs.length i) (hn : thereB xs key i = false) : Parts xs key (xs.take i) (xs.drop i) :=
  ⟨by rw [List.length_take]; omega, by rw [List.length_drop]; omega, fun hr => ⟨turn_lo hr ht, (turn_hi_no hr ht hn).1⟩⟩
theorem there_yes {xs : List Att} {key : Int} {i : Nat} (hn : thereB xs key i = true) : ∃ h : i < xs.length, xs[i].key = key := by
  by_cases h : i < xs.length
  · rw [thereB_in h] at hn; exact ⟨h, by simpa using hn⟩
  · rw [thereB_out h] at hn; cases hn
theorem parts_yes {xs : List Att} {key : Int} {i : Nat} (ht : Turn (geAt xs key) xs.length i) (hn : thereB xs key i = true) : Parts xs key (xs.take i) (xs.drop (i + 1)) := by
  obtain ⟨h, hk⟩ := there_yes hn
  exact ⟨by rw [List.length_take]; omega, by rw [List.length_drop]; omega, fun hr => ⟨turn_lo hr ht, (turn_hi_yes hr h ht hk).1⟩⟩

theorem row_drewN {α : Type} {C : Cel α} {w : World} {v : Value} {xs : List α} (h : Row C w v xs) (n : Nat) : Row C (w.drewN n) v xs :=
  h.below (B := w.heap.size) ⟨rfl, rfl, rfl, Nat.le_refl _, fun _ _ => rfl⟩ (Nat.le_refl _)

end Go.Proofs.YtiobcifpebehnaaDoor
