
import Derived.Test.YtoienmcgcefdiaaS13
/- S16: known -/
namespace Go.Proofs.Ytoienmcgcefdiaa
open Go.RowKit
set_option linter.unusedVariables false

theorem krow_built (w : World) (t : TypeId) (ks : List Key) (hm : ks.length ≤ maxLen) : Krow (w.alloc (.cells (flat ks).toArray t)) (.slice (some ⟨w.heap.size, 0, none⟩) ks.length ks.length) ks := by
  by_cases h0 : ks = []
  · subst h0; exact .inl ⟨_, 0, rfl, rfl, by simp, by simp⟩
  · refine .inr ⟨_, 0, _, rfl, List.length_pos_iff.2 h0, Nat.le_refl _, hm, fun j u hu => ?_⟩
    rw [cell_of_row (w.alloc (.cells (flat ks).toArray t)) w.heap.size (0 + j) _ t (0, 0) (heap_alloc_new w _), ← hu]
    simp

/-- New of keys that may be; of keys that may not. -/
theorem new_yes {v : Value} {ks : List Key} {w : World} (hv : Krow w v ks) (hW : ∀ k ∈ ks, KeyW k) (hm : mayKs ks) :
    Calls Try.prog 8 #[v] w fun e w' => ∃ s, e = .returned (.tuple #[.pointer (some s), .int .i64 0]) ∧ Sch w' (.pointer (some s)) ks ∧ Below w.heap.size w w' :=
  (new_any v ks w hv hW).mono fun e w' h => by
    obtain ⟨hb, ⟨_, s, he, hs⟩ | ⟨hn, _⟩⟩ := h
    · exact ⟨s, he, hs, hb⟩
    · exact absurd hm hn
theorem new_no {v : Value} {ks : List Key} {w : World} (hv : Krow w v ks) (hW : ∀ k ∈ ks, KeyW k) (hm : ¬ mayKs ks) :
    Calls Try.prog 8 #[v] w fun e w' => e = .returned (.tuple #[.pointer none, .int .i64 3]) ∧ Below w.heap.size w w' :=
  (new_any v ks w hv hW).mono fun e w' h => by
    obtain ⟨hb, ⟨hy, _⟩ | ⟨_, he⟩⟩ := h
    · exact absurd hy hm
    · exact ⟨he, hb⟩

def ks4 : List Key := [⟨9, true, 1, false, false, 1⟩, ⟨5, true, 2, false, false, 1⟩, ⟨7, true, 3, false, false, 1⟩, ⟨1, false, 4, false, false, 0⟩]
def ks2 : List Key := [⟨3, false, 1, false, false, 0⟩, ⟨3, false, 1, false, false, 0⟩]
theorem ks4_W : ∀ k ∈ ks4, KeyW k := by
  intro k hk
  simp [ks4] at hk
  rcases hk with rfl | rfl | rfl | rfl <;> exact ⟨by decide, by decide, by decide⟩
theorem ks2_W : ∀ k ∈ ks2, KeyW k := by
  intro k hk
  simp [ks2] at hk
  subst hk
  exact ⟨by decide, by decide, by decide⟩
theorem ks4_may : mayKs ks4 := by
  refine ⟨by decide, fun k hk => ?_, ?_⟩
  · simp [ks4] at hk
    rcases hk with rfl | rfl | rfl | rfl <;> rfl
  · simp [ks4, Apart]
theorem ks2_not : ¬ mayKs ks2 := by
  rintro ⟨_, _, h⟩
  simp [ks2, Apart] at h
theorem ks4_rising : rising ks4 = [⟨1, false, 4, false, false, 0⟩, ⟨5, true, 2, false, false, 1⟩, ⟨7, true, 3, false, false, 1⟩, ⟨9, true, 1, false, false, 1⟩] := by
  refine (rising_unique ks4_may.2 ?_ fun k => ?_).symm
  · simp
  · simp [ks4]
    constructor <;> (intro h; rcases h with h | h | h | h <;> simp [h])
theorem ks4_group : grpOf ks4 7 = [5, 9] := by
  have hf : fnd ks4 7 = some ⟨7, true, 3, false, false, 1⟩ := by simp [fnd, ks4]
  rw [grpOf_sel hf (by decide), ks4_rising]
  decide

theorem group_ks4 (s : Addr) (w : World) (hs : Sch w (.pointer (some s)) ks4) :
    Calls Try.prog 15 #[.pointer (some s), .int .i64 7] w fun e w' => ∃ b cap, e = .returned (.slice (some ⟨b, 0, none⟩) 2 cap) ∧ w'.cell? ⟨b, 0, none⟩ = some (.int .i64 5) ∧ w'.cell? ⟨b, 1, none⟩ = some (.int .i64 9) ∧ Below w.heap.size w w' :=
  (group_any _ ks4 7 w hs (by decide)).mono fun e w' h => by
    rw [ks4_group] at h
    obtain ⟨v, he, ho, hb⟩ := h
    rcases ho.2 with ⟨_, h0⟩ | ⟨g, cap, cur, hv, _⟩
    · simp at h0
    · subst hv
      exact ⟨g, cap, he, by simpa using ho.cellAt 0 (by simp), by simpa using ho.cellAt 1 (by simp), hb⟩

theorem new_ks4 (w : World) :
    Calls Try.prog 8 #[.slice (some ⟨w.heap.size, 0, none⟩) 4 4] (w.alloc (.cells (flat ks4).toArray 32)) fun e w' => ∃ s, e = .returned (.tuple #[.pointer (some s), .int .i64 0]) ∧ Sch w' (.pointer (some s)) ks4 ∧ Below w.heap.size w w' :=
  (new_yes (krow_built w _ ks4 (by decide)) ks4_W ks4_may).mono fun e w' ⟨s, he, hs, hb⟩ => ⟨s, he, hs, below_add ((Below.refl _ _).alloc (Nat.le_refl _) _) hb (by simp)⟩
theorem new_ks2 (w : World) :
    Calls Try.prog 8 #[.slice (some ⟨w.heap.size, 0, none⟩) 2 2] (w.alloc (.cells (flat ks2).toArray 32)) fun e w' => e = .returned (.tuple #[.pointer none, .int .i64 3]) ∧ Below w.heap.size w w' :=
  (new_no (krow_built w _ ks2 (by decide)) ks2_W ks2_not).mono fun e w' ⟨he, hb⟩ => ⟨he, below_add ((Below.refl _ _).alloc (Nat.le_refl _) _) hb (by simp)⟩
theorem flat_ks4 : (flat ks4).toArray = #[.int .i64 9, .bool true, .int .u8 1, .bool false, .bool false, .int .i64 1, .int .i64 5, .bool true, .int .u8 2, .bool false, .bool false, .int .i64 1, .int .i64 7, .bool true, .int .u8 3, .bool false, .bool false, .int .i64 1, .int .i64 1, .bool false, .int .u8 4, .bool false, .bool false, .int .i64 0] := rfl
theorem flat_ks2 : (flat ks2).toArray = #[.int .i64 3, .bool false, .int .u8 1, .bool false, .bool false, .int .i64 0, .int .i64 3, .bool false, .int .u8 1, .bool false, .bool false, .int .i64 0] := rfl

set_option maxRecDepth 100000 in
theorem skn_any (w : World) :
    Calls Try.prog 7 #[] w fun e w' => e = .returned (.bool true) ∧ Below w.heap.size w w' := by
  have h4 := fun w => new_ks4 w
  have h2 := fun w => new_ks2 w
  simp only [flat_ks4, flat_ks2] at h4 h2
  have H4 := Lib.hid h4
  have H2 := Lib.hid h2
  clear h4 h2
  have e4 : ks4.length = 4 := rfl
  have HL := Lib.hid (fun v w h => by have := len_any v ks4 w h; rw [e4] at this; exact this)
  clear e4
  go_enter Try.func7, Try.ntmps7
  go_wp2_with (first
    | (go_at_call 8; ((with_reducible refine (H4.out _).mono ?_); rintro e w1 ⟨s, rfl, hs1, hb1⟩))
    | (go_at_call 15; ((with_reducible refine (group_ks4 s _ hs1).mono ?_); rintro e w2 ⟨b, cap, rfl, c0, c1, hb2⟩))
    | (go_at_call 8; ((with_reducible refine (H2.out _).mono ?_); rintro e w3 ⟨rfl, hb3⟩; have d0 := (hb3.cell (p := ⟨b, 0, none⟩) (World.block_lt_of_cell? _ _ c0)).trans c0; have d1 := (hb3.cell (p := ⟨b, 1, none⟩) (World.block_lt_of_cell? _ _ c1)).trans c1; have hs3 := (hs1.below hb2 (Nat.le_refl _)).below hb3 (Nat.le_refl _); clear c0 c1))
    | (go_at_call 10; ((with_reducible refine (HL.out _ _ hs3).mono ?_); rintro e w4 ⟨rfl, rfl⟩)))
  go_ret
  exact ⟨rfl, below_add (below_add hb1 hb2 hb1.size) hb3 (below_add hb1 hb2 hb1.size).size⟩
end Go.Proofs.Ytoienmcgcefdiaa
