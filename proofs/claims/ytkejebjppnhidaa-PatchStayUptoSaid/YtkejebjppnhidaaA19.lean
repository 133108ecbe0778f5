
import Derived.Test.YtkejebjppnhidaaA16
/- A19: what may be stays so -/
namespace Go.Proofs.Ytkejebjppnhidaa
open Go.RowKit
set_option linter.unusedVariables false

theorem nodup_le : ∀ (l m : List Int), l.Nodup → (∀ x ∈ l, x ∈ m) → l.length ≤ m.length
  | [], m, _, _ => Nat.zero_le _
  | x :: r, m, hn, hs => by
    obtain ⟨h1, h2⟩ := List.nodup_cons.1 hn
    have hx := hs x (by simp)
    have := nodup_le r (m.erase x) h2 (fun y hy => (List.mem_erase_of_ne (fun e => h1 (by rw [← e]; exact hy))).2 (hs y (by simp [hy])))
    rw [List.length_erase_of_mem hx] at this
    have hp := List.length_pos_of_mem hx
    simp
    omega
theorem fits_in {ks : List Key} {id k n f : Int} {s : ByteArray} (h : fitsB ks id k n f s = true) : (∃ key ∈ ks, key.id = id) ∧ vmay k n f s = true := by
  cases hf : fnd ks id with
  | none => rw [fitsB_none hf] at h; cases h
  | some key =>
    rw [fitsB_some hf] at h
    exact ⟨⟨key, (fnd_some hf).1, (fnd_some hf).2⟩, by simp at h; exact h.2⟩
theorem okF_mem {ks : List Key} {xs : List Att} : okF5 ks xs = true ↔ ∀ a ∈ xs, fitsB ks a.key a.k a.n a.f a.s = true := by unfold okF5; simp
theorem okV_mem {xs : List Att} : okV xs = true ↔ ∀ a ∈ xs, vmay a.k a.n a.f a.s = true := by unfold okV; simp
/-- What rises and fits has no more attributes than the schema has keys. -/
theorem fits_few {ks : List Key} {xs : List Att} (hr : Rise xs) (hf : okF5 ks xs = true) : xs.length ≤ ks.length := by
  have := nodup_le (xs.map (·.key)) (ks.map (·.id)) ?_ ?_
  · simpa using this
  · refine (List.pairwise_map.2 ?_)
    exact hr.imp fun h => by omega
  · intro x hx
    obtain ⟨a, ha, rfl⟩ := List.mem_map.1 hx
    obtain ⟨⟨key, hk, he⟩, _⟩ := fits_in (okF_mem.1 hf a ha)
    exact List.mem_map.2 ⟨key, hk, he⟩
theorem may_zero {ks : List Key} {xs : List Att} : may5 ks xs = 0 ↔ wf5 xs = true ∧ okF5 ks xs = true := by
  unfold may5
  cases h : wf5 xs <;> cases h2 : okF5 ks xs <;> simp
/-- A set that may be: it rises, and each attribute fits. -/
theorem may_iff {ks : List Key} (hk : ks.length ≤ 64) {xs : List Att} : may5 ks xs = 0 ↔ Rise xs ∧ okF5 ks xs = true := by
  rw [may_zero]
  constructor
  · rintro ⟨h1, h2⟩; exact ⟨(wf_parts h1).1, h2⟩
  · rintro ⟨h1, h2⟩
    have := fits_few h1 h2
    exact ⟨wf_good h1 (by omega) (okV_mem.2 fun a ha => (fits_in (okF_mem.1 h2 a ha)).2), h2⟩
theorem may_sub {ks : List Key} (hk : ks.length ≤ 64) {xs ys : List Att} (h : may5 ks xs = 0) (hs : ys.Sublist xs) : may5 ks ys = 0 := by
  rw [may_iff hk] at *
  exact ⟨h.1.sublist hs, okF_mem.2 fun a ha => okF_mem.1 h.2 a (hs.subset ha)⟩
theorem lo_mem {xs : List Att} {key : Int} {a : Att} (h : a ∈ lo5 xs key) : a ∈ xs ∧ a.key < key := by
  have := List.mem_filter.1 h
  exact ⟨this.1, by simpa using this.2⟩
theorem hi_mem {xs : List Att} {key : Int} {a : Att} (h : a ∈ hi5 xs key) : a ∈ xs ∧ key < a.key := by
  have := List.mem_filter.1 h
  exact ⟨this.1, by simpa using this.2⟩
theorem rise_with {xs : List Att} (a : Att) (hr : Rise xs) : Rise (with5 xs a) := by
  refine List.pairwise_append.2 ⟨hr.sublist List.filter_sublist, List.pairwise_cons.2 ⟨fun b hb => (hi_mem hb).2, hr.sublist List.filter_sublist⟩, fun b hb c hc => ?_⟩
  have h1 := (lo_mem hb).2
  rcases List.mem_cons.1 hc with rfl | hc
  · exact h1
  · have := (hi_mem hc).2; omega
theorem rise_without {xs : List Att} (key : Int) (hr : Rise xs) : Rise (without5 xs key) := by
  refine List.pairwise_append.2 ⟨hr.sublist List.filter_sublist, hr.sublist List.filter_sublist, fun b hb c hc => ?_⟩
  have h1 := (lo_mem hb).2
  have := (hi_mem hc).2
  omega
theorem without_mem {xs : List Att} {key : Int} {a : Att} : a ∈ without5 xs key ↔ a ∈ xs ∧ a.key ≠ key := by
  unfold without5 lo5 hi5
  rw [List.mem_append, List.mem_filter, List.mem_filter]
  simp
  constructor
  · rintro (⟨h1, h2⟩ | ⟨h1, h2⟩) <;> exact ⟨h1, by omega⟩
  · rintro ⟨h1, h2⟩
    by_cases h : a.key < key
    · exact .inl ⟨h1, h⟩
    · exact .inr ⟨h1, by omega⟩
theorem with_mem {xs : List Att} {a b : Att} : b ∈ with5 xs a ↔ b = a ∨ b ∈ xs ∧ b.key ≠ a.key := by
  have h := @without_mem xs a.key b
  unfold without5 at h
  unfold with5
  rw [List.mem_append, List.mem_cons]
  rw [List.mem_append] at h
  rw [← h]
  constructor
  · rintro (h1 | h1 | h1)
    · exact .inr (.inl h1)
    · exact .inl h1
    · exact .inr (.inr h1)
  · rintro (h1 | h1 | h1)
    · exact .inr (.inl h1)
    · exact .inl h1
    · exact .inr (.inr h1)
theorem may_without {ks : List Key} (hk : ks.length ≤ 64) {xs : List Att} (key : Int) (h : may5 ks xs = 0) : may5 ks (without5 xs key) = 0 := by
  rw [may_iff hk] at *
  exact ⟨rise_without key h.1, okF_mem.2 fun a ha => okF_mem.1 h.2 a (without_mem.1 ha).1⟩
theorem may_part {ks : List Key} (hk : ks.length ≤ 64) {xs : List Att} (blk : Bool) (h : may5 ks xs = 0) : may5 ks (part5 ks blk xs) = 0 := may_sub hk h List.filter_sublist
theorem may_with {ks : List Key} (hk : ks.length ≤ 64) {xs : List Att} (a : Att) (h : may5 ks xs = 0) : (may5 ks (with5 xs a) == 0) = fitsB ks a.key a.k a.n a.f a.s := by
  rw [Bool.eq_iff_iff, beq_iff_eq, may_iff hk]
  rw [may_iff hk] at h
  constructor
  · rintro ⟨_, h2⟩; exact okF_mem.1 h2 a (with_mem.2 (.inl rfl))
  · intro hf
    refine ⟨rise_with a h.1, okF_mem.2 fun b hb => ?_⟩
    rcases with_mem.1 hb with rfl | ⟨hb, _⟩
    · exact hf
    · exact okF_mem.1 h.2 b hb
theorem with_len (xs : List Att) (a : Att) : (with5 xs a).length ≤ xs.length + 1 := by
  unfold with5 lo5 hi5
  have : ∀ l : List Att, (l.filter fun b => decide (b.key < a.key)).length + (l.filter fun b => decide (a.key < b.key)).length ≤ l.length := by
    intro l
    induction l with
    | nil => simp
    | cons x r ih =>
      simp only [List.filter_cons]
      by_cases h1 : x.key < a.key
      · have : ¬ a.key < x.key := by omega
        simp [h1, this]; omega
      · by_cases h2 : a.key < x.key
        · simp [h1, h2]; omega
        · simp [h1, h2]; omega
  have := this xs
  simp
  omega
/-- Each attribute of these is one of those, or the new one: what an attribute is within. -/
theorem attw_with {xs : List Att} {a : Att} (h : ∀ b ∈ xs, AttW b) (ha : AttW a) : ∀ b ∈ with5 xs a, AttW b := by
  intro b hb
  rcases with_mem.1 hb with rfl | ⟨hb, _⟩
  · exact ha
  · exact h b hb
theorem attw_without {xs : List Att} {key : Int} (h : ∀ b ∈ xs, AttW b) : ∀ b ∈ without5 xs key, AttW b := fun b hb => h b (without_mem.1 hb).1
theorem attw_part {ks : List Key} {blk : Bool} {xs : List Att} (h : ∀ b ∈ xs, AttW b) : ∀ b ∈ part5 ks blk xs, AttW b := fun b hb => h b (List.mem_filter.1 hb).1
theorem not_great {xs : List Att} (h : ¬ great5 xs) : xs.length ≤ 100 ∧ ∀ a ∈ xs, a.s.size ≤ 200 := by
  unfold great5 at h
  refine ⟨by
    by_cases hl : 100 < xs.length
    · exact absurd (.inr hl) h
    · omega, fun a ha => ?_⟩
  by_cases hs : 200 < a.s.size
  · exact absurd (.inl ⟨a, ha, hs⟩) h
  · omega
end Go.Proofs.Ytkejebjppnhidaa
