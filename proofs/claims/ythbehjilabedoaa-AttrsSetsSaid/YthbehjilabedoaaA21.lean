
import Derived.Test.YthbehjilabedoaaA19
/- A21: sets are told by their attributes -/
namespace Go.Proofs.Ythbehjilabedoaa
open Go.RowKit
set_option linter.unusedVariables false

theorem rise_ext : ∀ (a b : List Att), Rise a → Rise b → (∀ k, k ∈ a ↔ k ∈ b) → a = b
  | [], [], _, _, _ => rfl
  | [], y :: s, _, _, h => absurd ((h y).2 (by simp)) (by simp)
  | x :: r, [], _, _, h => absurd ((h x).1 (by simp)) (by simp)
  | x :: r, y :: s, ha, hb, h => by
    obtain ⟨a1, a2⟩ := List.pairwise_cons.1 ha
    obtain ⟨b1, b2⟩ := List.pairwise_cons.1 hb
    have hxy : x = y := by
      rcases List.mem_cons.1 ((h x).1 (by simp)) with e | hx
      · exact e
      · rcases List.mem_cons.1 ((h y).2 (by simp)) with e | hy
        · exact e.symm
        · have := b1 x hx
          have := a1 y hy
          omega
    subst hxy
    congr 1
    refine rise_ext r s a2 b2 fun k => ⟨fun hk => ?_, fun hk => ?_⟩
    · rcases List.mem_cons.1 ((h k).1 (by simp [hk])) with e | hk'
      · subst e; have := a1 k hk; omega
      · exact hk'
    · rcases List.mem_cons.1 ((h k).2 (by simp [hk])) with e | hk'
      · subst e; have := b1 k hk; omega
      · exact hk'
theorem rise_key {xs : List Att} (hr : Rise xs) {a b : Att} (ha : a ∈ xs) (hb : b ∈ xs) (h : a.key = b.key) : a = b := by
  induction xs with
  | nil => cases ha
  | cons x r ih =>
    obtain ⟨h1, h2⟩ := List.pairwise_cons.1 hr
    rcases List.mem_cons.1 ha with e1 | ha
    · rcases List.mem_cons.1 hb with e2 | hb
      · rw [e1, e2]
      · have := h1 b hb; subst e1; omega
    · rcases List.mem_cons.1 hb with e2 | hb
      · have := h1 a ha; subst e2; omega
      · exact ih h2 ha hb
theorem getA_mem {xs : List Att} (hr : Rise xs) {a : Att} (ha : a ∈ xs) : getA xs a.key = some a := by
  cases h : getA xs a.key with
  | none =>
    unfold getA at h
    rw [List.find?_eq_none] at h
    exact absurd (h a ha) (by simp)
  | some b =>
    unfold getA at h
    have h1 := List.mem_of_find?_eq_some h
    have h2 := List.find?_some h
    rw [rise_key hr h1 ha (by simpa using h2)]
theorem getA_some {xs : List Att} {key : Int} {a : Att} (h : getA xs key = some a) : a ∈ xs ∧ a.key = key := by
  unfold getA at h
  exact ⟨List.mem_of_find?_eq_some h, by simpa using List.find?_some h⟩
theorem getA_none {xs : List Att} {key : Int} : getA xs key = none ↔ ∀ a ∈ xs, a.key ≠ key := by
  unfold getA
  rw [List.find?_eq_none]
  simp
theorem with_twice {xs : List Att} (x : Att) (hr : Rise xs) : with5 (with5 xs x) x = with5 xs x := by
  refine rise_ext _ _ (rise_with x (rise_with x hr)) (rise_with x hr) fun k => ?_
  rw [with_mem, with_mem]
  constructor
  · rintro (h | ⟨h, _⟩)
    · exact .inl h
    · exact h
  · rintro (h | ⟨h1, h2⟩)
    · exact .inl h
    · exact .inr ⟨.inr ⟨h1, h2⟩, h2⟩
theorem without_with {xs : List Att} (x : Att) (hr : Rise xs) : without5 (with5 xs x) x.key = without5 xs x.key := by
  refine rise_ext _ _ (rise_without _ (rise_with x hr)) (rise_without _ hr) fun k => ?_
  rw [without_mem, without_mem, with_mem]
  constructor
  · rintro ⟨h | h, h2⟩
    · subst h; exact absurd rfl h2
    · exact h
  · rintro ⟨h1, h2⟩
    exact ⟨.inr ⟨h1, h2⟩, h2⟩
theorem with_same {xs : List Att} {x : Att} (hr : Rise xs) (hx : x ∈ xs) : with5 xs x = xs := by
  refine rise_ext _ _ (rise_with x hr) hr fun k => ?_
  rw [with_mem]
  constructor
  · rintro (h | ⟨h, _⟩)
    · subst h; exact hx
    · exact h
  · intro h
    by_cases hk : k.key = x.key
    · exact .inl (rise_key hr h hx hk)
    · exact .inr ⟨h, hk⟩
theorem rise_few {xs ys : List Att} (hr : Rise ys) (hs : ∀ a ∈ ys, a ∈ xs) : ys.length ≤ xs.length := by
  have := nodup_le (ys.map (·.key)) (xs.map (·.key)) ?_ ?_
  · simpa using this
  · exact List.pairwise_map.2 (hr.imp fun h => by omega)
  · intro x hx
    obtain ⟨a, ha, rfl⟩ := List.mem_map.1 hx
    exact List.mem_map.2 ⟨a, hs a ha, rfl⟩

/-! ### the parts -/
theorem part_mem {ks : List Key} {blk : Bool} {xs : List Att} {a : Att} : a ∈ part5 ks blk xs ↔ a ∈ xs ∧ partB ks blk a = true := List.mem_filter
theorem part_flip {ks : List Key} {a : Att} (h : fitsB ks a.key a.k a.n a.f a.s = true) : partB ks true a = !partB ks false a := by
  cases hf : fnd ks a.key with
  | none => rw [fitsB_none hf] at h; cases h
  | some key => rw [partB_some hf, partB_some hf]; cases key.blk <;> rfl
theorem part_both0 {ks : List Key} {xs : List Att} (h : ∀ a ∈ xs, fitsB ks a.key a.k a.n a.f a.s = true) : (part5 ks false xs).length + (part5 ks true xs).length = xs.length := by
  unfold part5
  induction xs with
  | nil => rfl
  | cons x r ih =>
    have ih := ih (fun a ha => h a (by simp [ha]))
    have hx := part_flip (h x (by simp))
    simp only [List.filter_cons]
    cases hb : partB ks false x
    · rw [hb] at hx; simp [hx]; omega
    · rw [hb] at hx; simp [hx]; omega
theorem part_both {ks : List Key} {xs : List Att} (h : okF5 ks xs = true) : (part5 ks false xs).length + (part5 ks true xs).length = xs.length := part_both0 (okF_mem.1 h)
theorem part_other {ks : List Key} {xs : List Att} (blk : Bool) : part5 ks (!blk) (part5 ks blk xs) = [] := by
  refine filter_none fun a ha => ?_
  have := (part_mem.1 ha).2
  cases hf : fnd ks a.key with
  | none => rw [partB_none hf]
  | some key => rw [partB_some hf] at this ⊢; rw [beq_iff_eq] at this; subst this; cases key.blk <;> rfl
/-- What k of the block attributes put in make of the inline ones. -/
def Both (ks : List Key) (xs : List Att) (k : Nat) (ls : List Att) : Prop := Rise ls ∧ ∀ a, a ∈ ls ↔ a ∈ part5 ks false xs ∨ a ∈ (part5 ks true xs).take k
theorem both_zero {ks : List Key} {xs : List Att} (hr : Rise xs) : Both ks xs 0 (part5 ks false xs) := ⟨hr.sublist List.filter_sublist, fun a => by simp⟩
theorem both_in {ks : List Key} {xs : List Att} {k : Nat} {ls : List Att} (h : Both ks xs k ls) : ∀ a ∈ ls, a ∈ xs := by
  intro a ha
  rcases (h.2 a).1 ha with h1 | h1
  · exact (part_mem.1 h1).1
  · exact (part_mem.1 (List.mem_of_mem_take h1)).1
theorem both_few {ks : List Key} {xs : List Att} {k : Nat} {ls : List Att} (h : Both ks xs k ls) : ls.length ≤ xs.length := rise_few h.1 (both_in h)
theorem both_step {ks : List Key} {xs : List Att} {k : Nat} {ls : List Att} (hr : Rise xs) (h : Both ks xs k ls) (hk : k < (part5 ks true xs).length) : Both ks xs (k + 1) (with5 ls (part5 ks true xs)[k]) := by
  refine ⟨rise_with _ h.1, fun a => ?_⟩
  rw [with_mem, atake_snoc hk, List.mem_append, List.mem_singleton]
  have hx := (part_mem.1 (List.getElem_mem hk)).1
  constructor
  · rintro (h1 | ⟨h1, _⟩)
    · exact .inr (.inr h1)
    · rcases (h.2 a).1 h1 with h2 | h2
      · exact .inl h2
      · exact .inr (.inl h2)
  · intro h1
    by_cases he : a = (part5 ks true xs)[k]
    · exact .inl he
    · refine .inr ⟨?_, fun hkey => he ?_⟩
      · rcases h1 with h2 | h2 | h2
        · exact (h.2 a).2 (.inl h2)
        · exact (h.2 a).2 (.inr h2)
        · exact absurd h2 he
      · have ha : a ∈ xs := by
          rcases h1 with h2 | h2 | h2
          · exact (part_mem.1 h2).1
          · exact (part_mem.1 (List.mem_of_mem_take h2)).1
          · rw [h2]; exact hx
        exact rise_key hr ha hx hkey
theorem both_end {ks : List Key} {xs : List Att} {ls : List Att} (hr : Rise xs) (hf : okF5 ks xs = true) (h : Both ks xs (part5 ks true xs).length ls) : ls = xs := by
  refine rise_ext _ _ h.1 hr fun a => ⟨both_in h a, fun ha => (h.2 a).2 ?_⟩
  rw [List.take_of_length_le (Nat.le_refl _), part_mem, part_mem]
  have := part_flip (okF_mem.1 hf a ha)
  cases hb : partB ks false a
  · rw [hb] at this; exact .inr ⟨ha, this⟩
  · exact .inl ⟨ha, rfl⟩
end Go.Proofs.Ythbehjilabedoaa
