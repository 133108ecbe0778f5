
import Derived.Test.YtiobcifpebehnaaDoorS1
import Derived.Deep.Quiet
/- S3: rows of keys -/
namespace Go.Proofs.YtiobcifpebehnaaDoor
open Go.RowKit
set_option linter.unusedVariables false

def flat (ks : List Key) : List Value := ks.flatMap kc
theorem flat_nil : flat [] = [] := rfl
theorem flat_cons (k : Key) (r : List Key) : flat (k :: r) = kc k ++ flat r := rfl
theorem flat_app (a b : List Key) : flat (a ++ b) = flat a ++ flat b := by simp [flat]
theorem flat_one (k : Key) : flat [k] = kc k := by simp [flat]
theorem flat_len : ∀ ks : List Key, (flat ks).length = ks.length * 6
  | [] => rfl
  | k :: r => by rw [flat_cons, List.length_append, flat_len r]; simp; omega
theorem flat_one_cells (ks : List Key) : ∀ u ∈ flat ks, u.oneCell' = true := by
  intro u hu
  obtain ⟨k, _, hk⟩ := List.mem_flatMap.1 hu
  simp at hk
  rcases hk with rfl | rfl | rfl | rfl | rfl | rfl <;> rfl
theorem flat_get : ∀ (ks : List Key) (j i : Nat) (hj : j < ks.length), i < 6 → (flat ks)[j * 6 + i]? = (kc ks[j])[i]?
  | k :: r, 0, i, _, hi => by
    rw [flat_cons, List.getElem?_append_left (by simp; omega)]
    simp
  | k :: r, j + 1, i, hj, hi => by
    rw [flat_cons, List.getElem?_append_right (by simp; omega)]
    have : (j + 1) * 6 + i - (kc k).length = j * 6 + i := by simp; omega
    rw [this, flat_get r j i (by simpa using hj) hi]
    simp

/-- A key's six cells at a place. -/
@[reducible] def KAt (b o : Nat) (k : Key) (w : World) : Prop :=
  w.cell? ⟨b, o, none⟩ = some (.int .i64 k.id) ∧ w.cell? ⟨b, o + 1, none⟩ = some (.bool k.blk) ∧ w.cell? ⟨b, o + 2, none⟩ = some (.int .u8 k.kind) ∧ w.cell? ⟨b, o + 3, none⟩ = some (.bool k.aft) ∧ w.cell? ⟨b, o + 4, none⟩ = some (.bool k.bef) ∧ w.cell? ⟨b, o + 5, none⟩ = some (.int .i64 k.grp)
/-- .. at a block's head. -/
@[reducible] def KBox (b : Nat) (k : Key) (w : World) : Prop :=
  w.cell? ⟨b, 0, none⟩ = some (.int .i64 k.id) ∧ w.cell? ⟨b, 1, none⟩ = some (.bool k.blk) ∧ w.cell? ⟨b, 2, none⟩ = some (.int .u8 k.kind) ∧ w.cell? ⟨b, 3, none⟩ = some (.bool k.aft) ∧ w.cell? ⟨b, 4, none⟩ = some (.bool k.bef) ∧ w.cell? ⟨b, 5, none⟩ = some (.int .i64 k.grp)
theorem KBox.below {B : Nat} {b : Nat} {k : Key} {w w' : World} (h : KBox b k w) (hb : Below B w w') (hB : b < B) : KBox b k w' := by
  obtain ⟨h0, h1, h2, h3, h4, h5⟩ := h
  exact ⟨(hb.cell (p := ⟨b, _, none⟩) hB).trans h0, (hb.cell (p := ⟨b, _, none⟩) hB).trans h1, (hb.cell (p := ⟨b, _, none⟩) hB).trans h2, (hb.cell (p := ⟨b, _, none⟩) hB).trans h3, (hb.cell (p := ⟨b, _, none⟩) hB).trans h4, (hb.cell (p := ⟨b, _, none⟩) hB).trans h5⟩
theorem KBox.box (k : Key) (w : World) (t : TypeId) : KBox w.heap.size k (w.alloc (.cells (kc k).toArray t)) := by
  refine ⟨?_, ?_, ?_, ?_, ?_, ?_⟩ <;> (rw [cell_of_row _ w.heap.size _ _ t (0, 0) (heap_alloc_new w _)]; rfl)

/-- A slice of keys that reads as ks. -/
def Krow (w : World) (v : Value) (ks : List Key) : Prop :=
  (∃ a cap, v = .slice a 0 cap ∧ ks = [] ∧ cap ≤ maxLen ∧ (a = none → cap = 0)) ∨
  ∃ b off cap, v = .slice (some ⟨b, off, none⟩) ks.length cap ∧ 0 < ks.length ∧ ks.length ≤ cap ∧ cap ≤ maxLen ∧
    (∀ j u, (flat ks)[j]? = some u → w.cell? ⟨b, off + j, none⟩ = some u)
theorem Krow.below {B : Nat} {w w' : World} {v : Value} {ks : List Key} (h : Krow w v ks) (hb : Below B w w') (hB : w.heap.size ≤ B) : Krow w' v ks := by
  rcases h with h | ⟨b, off, cap, rfl, h0, h1, h2, h3⟩
  · exact .inl h
  · refine .inr ⟨b, off, cap, rfl, h0, h1, h2, fun j u hu => ?_⟩
    have := h3 j u hu
    rw [← this]
    exact hb.cell (p := ⟨b, off + j, none⟩) (Nat.lt_of_lt_of_le (World.block_lt_of_cell? w _ this) hB)
theorem Krow.shape {w : World} {v : Value} {ks : List Key} (h : Krow w v ks) : ∃ a cap, v = .slice a ks.length cap := by
  rcases h with ⟨a, cap, rfl, rfl, hm, _⟩ | ⟨b, off, cap, rfl, h0, h1, hm, hc⟩
  · exact ⟨a, cap, rfl⟩
  · exact ⟨_, _, rfl⟩
theorem Krow.len {w : World} {v : Value} {ks : List Key} (h : Krow w v ks) : ks.length ≤ 9223372036854775807 := by
  rcases h with ⟨a, cap, rfl, rfl, _⟩ | ⟨b, off, cap, rfl, h0, h1, h2, h3⟩
  · simp
  · unfold maxLen at h2; omega
theorem Krow.nil (w : World) : Krow w (.slice none 0 0) [] := .inl ⟨none, 0, rfl, rfl, by simp, fun _ => rfl⟩
theorem Krow.opened {w : World} {a : Option Addr} {n cap : Nat} {ks : List Key} (h : Krow w (.slice a n cap) ks) (h0 : 0 < ks.length) :
    ∃ b off, a = some ⟨b, off, none⟩ ∧ n = ks.length ∧ ks.length ≤ cap ∧ cap ≤ maxLen ∧ b < w.heap.size ∧ (∀ j (hj : j < ks.length), KAt b (off + j * 6) ks[j] w) := by
  rcases h with ⟨a, cap, hv, rfl, _⟩ | ⟨b, off, cap', hv, _, h1, hm, hc⟩
  · simp at h0
  · injection hv with e1 e2 e3
    subst e1 e2 e3
    have hat : ∀ j (hj : j < ks.length), KAt b (off + j * 6) ks[j] w := fun j hj => by
      have g := fun i (hi : i < 6) u (hu : (kc ks[j])[i]? = some u) => hc (j * 6 + i) u ((flat_get ks j i hj hi).trans hu)
      refine ⟨?_, ?_, ?_, ?_, ?_, ?_⟩
      · exact g 0 (by omega) _ rfl
      · simpa [Nat.add_assoc] using g 1 (by omega) _ rfl
      · simpa [Nat.add_assoc] using g 2 (by omega) _ rfl
      · simpa [Nat.add_assoc] using g 3 (by omega) _ rfl
      · simpa [Nat.add_assoc] using g 4 (by omega) _ rfl
      · simpa [Nat.add_assoc] using g 5 (by omega) _ rfl
    exact ⟨b, off, rfl, rfl, h1, hm, World.block_lt_of_cell? w _ (hat 0 h0).1, hat⟩
/-- A row that the call owns reads as what it owns. -/
theorem Krow.of_owns {w : World} {base : Nat} {e : TypeId} {v : Value} {n : Nat} {ks : List Key} (h : w.ownsRow base e 6 v n (flat ks)) : Krow w v ks ∧ n = ks.length := by
  have hn : n = ks.length := by have := h.1; rw [flat_len] at this; omega
  subst hn
  refine ⟨?_, rfl⟩
  by_cases hx : ks = []
  · subst hx
    rcases h.2 with ⟨rfl, _⟩ | ⟨g, cap, cur, rfl, hb, hg, hc, hm, _⟩
    · exact .inl ⟨none, 0, rfl, rfl, by simp, fun _ => rfl⟩
    · exact .inl ⟨_, cap, rfl, rfl, hm, by simp⟩
  · have hpos : 0 < ks.length := List.length_pos_iff.2 hx
    rcases h.2 with ⟨rfl, h0⟩ | ⟨g, cap, cur, hv, hb, hg, hc, hm, _⟩
    · omega
    · subst hv
      refine .inr ⟨g, 0, cap, rfl, hpos, hc, hm, fun j u hu => ?_⟩
      have := h.cells (g := g) rfl j u hu
      rw [Go.WideShapes.add_plain] at this
      simpa using this
end Go.Proofs.YtiobcifpebehnaaDoor

/- S4: may -/
namespace Go.Proofs.YtiobcifpebehnaaDoor
open Go.RowKit
set_option linter.unusedVariables false

theorem iskind_any (n : Int) (w : World) :
    Calls Tryd.prog 40 #[.int .u8 n] w fun e w' => e = .returned (.bool (decide (1 ≤ n ∧ n ≤ 4))) ∧ w = w' := by
  by_cases h1 : n = 1
  · subst h1
    go_enter Tryd.func40, Tryd.ntmps40
    go_wp2
    go_ret
    exact ⟨rfl, rfl⟩
  by_cases h2 : n = 2
  · subst h2
    go_enter Tryd.func40, Tryd.ntmps40
    go_wp2
    go_ret
    exact ⟨rfl, rfl⟩
  by_cases h3 : n = 3
  · subst h3
    go_enter Tryd.func40, Tryd.ntmps40
    go_wp2
    go_ret
    exact ⟨rfl, rfl⟩
  by_cases h4 : n = 4
  · subst h4
    go_enter Tryd.func40, Tryd.ntmps40
    go_wp2
    go_ret
    exact ⟨rfl, rfl⟩
  have e1 : (n == 1) = false := by simpa using h1
  have e2 : (n == 2) = false := by simpa using h2
  have e3 : (n == 3) = false := by simpa using h3
  have e4 : (n == 4) = false := by simpa using h4
  have hf : decide (1 ≤ n ∧ n ≤ 4) = false := by rw [decide_eq_false_iff_not]; omega
  rw [hf]
  clear h1 h2 h3 h4 hf
  go_enter Tryd.func40, Tryd.ntmps40
  go_wp2
  go_ret
  exact ⟨rfl, rfl⟩

def mayG (k : Key) : Bool := decide (k.grp = 0 ∨ (k.blk = true ∧ 1 ≤ k.grp ∧ k.grp ≤ 8))
theorem maygroup_any (k : Key) (w : World) :
    Calls Tryd.prog 41 #[kv k] w fun e w' => e = .returned (.bool (mayG k)) ∧ Below w.heap.size w w' := by
  have hB := (Below.refl w.heap.size w).alloc (Nat.le_refl _) (.cells (kc k).toArray 67)
  obtain ⟨id, blk, kind, aft, bef, grp⟩ := k
  by_cases h0 : grp = 0
  · subst h0
    have hm : mayG ⟨id, blk, kind, aft, bef, 0⟩ = true := by simp [mayG]
    rw [hm]
    clear hm
    go_enter Tryd.func41, Tryd.ntmps41
    go_wp2
    go_ret
    exact ⟨rfl, hB⟩
  · have e0 : (grp == 0) = false := by simpa using h0
    cases blk
    · have hm : mayG ⟨id, false, kind, aft, bef, grp⟩ = false := by simp [mayG, h0]
      rw [hm]
      clear hm h0
      go_enter Tryd.func41, Tryd.ntmps41
      go_wp2
      go_ret
      exact ⟨rfl, hB⟩
    · by_cases h1 : 1 ≤ grp
      · have hm : mayG ⟨id, true, kind, aft, bef, grp⟩ = decide (grp ≤ 8) := by simp [mayG, h0, h1]
        rw [hm]
        have d1 : decide (1 ≤ grp) = true := by simpa using h1
        clear hm h0
        go_enter Tryd.func41, Tryd.ntmps41
        go_wp2
        go_ret
        exact ⟨rfl, hB⟩
      · have hm : mayG ⟨id, true, kind, aft, bef, grp⟩ = false := by simp [mayG, h0, h1]
        rw [hm]
        have d1 : decide (1 ≤ grp) = false := by simpa using h1
        clear hm h0
        go_enter Tryd.func41, Tryd.ntmps41
        go_wp2
        go_ret
        exact ⟨rfl, hB⟩

theorem mayK_eq (k : Key) : mayK k = (decide (1 ≤ k.id) && decide (k.id ≤ 1000) && decide (1 ≤ k.kind ∧ k.kind ≤ 4) && mayG k && !(k.blk && k.bef)) := by
  obtain ⟨id, blk, kind, aft, bef, grp⟩ := k
  unfold mayK mayG
  rw [Bool.eq_iff_iff]
  cases blk <;> cases bef <;> simp <;> omega
end Go.Proofs.YtiobcifpebehnaaDoor
