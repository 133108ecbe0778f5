
import Derived.Test.YthbehjilabedoaaA16
/- A17: known -/
namespace Go.Proofs.Ythbehjilabedoaa
open Go.RowKit
set_option linter.unusedVariables false

@[reducible] def k1 : Att := ⟨1, 2, 1, 0, ⟨#[]⟩⟩
@[reducible] def k3 : Att := ⟨3, 2, 1, 0, ⟨#[]⟩⟩
@[reducible] def k5 : Att := ⟨5, 2, 1, 0, ⟨#[]⟩⟩
theorem rise13 : Rise [k1, k5] := by simp [Rise]
theorem rise135 : Rise [k1, k3, k5] := by simp [Rise]
theorem with135 : with5 [k1, k5] k3 = [k1, k3, k5] := by simp [with5, lo5, hi5]
theorem without135 : without5 [k1, k3, k5] 1 = [k3, k5] := by simp [without5, lo5, hi5]
theorem get135 : getA [k1, k3, k5] 3 = some k3 := by simp [getA]

/-- A row of these three. -/
def Three5 (b off cap : Nat) (w : World) : Prop := Arow w (.slice (some ⟨b, off, none⟩) 3 cap) [k1, k3, k5] ∧ 3 ≤ cap
theorem Three5.below {b off cap : Nat} {w w' : World} (h : Three5 b off cap w) (hb : Below w.heap.size w w') : Three5 b off cap w' := ⟨h.1.below hb (Nat.le_refl _), h.2⟩
theorem Three5.cell {b off cap : Nat} {w : World} (h : Three5 b off cap w) : w.cell? ⟨b, off + 5, none⟩ = some (.int .i64 3) := by
  obtain ⟨b', o', e, -, -, -, -, hat⟩ := Arow.opn h.1 (by simp)
  injection e with e
  injection e with e1 e2
  subst e1 e2
  exact (hat 1 (by simp)).1
theorem known_with0 (W : World) (t : TypeId) :
    Calls Try.prog 19 #[.slice (some ⟨W.heap.size, 0, none⟩) 2 2, av k3] (W.alloc (.cells #[.int .i64 1, .int .u8 2, .int .i64 1, .int .u64 0, .string ⟨#[]⟩, .int .i64 5, .int .u8 2, .int .i64 1, .int .u64 0, .string ⟨#[]⟩] t)) fun e w' => ∃ b off cap, e = .returned (.slice (some ⟨b, off, none⟩) 3 cap) ∧ Hid (Three5 b off cap w') ∧ Below W.heap.size W w' := by
  have hr : Arow (W.alloc (.cells (fl attC [k1, k5]).toArray t)) (.slice (some ⟨W.heap.size, 0, none⟩) 2 2) [k1, k5] := Row.built (C := attC) W t [k1, k5] (by simp [maxLen])
  refine (with_any _ [k1, k5] k3 _ hr (by simp)).mono fun e w' ⟨u, ls, he, hls, _, ho, hb⟩ => ?_
  have h1 := hls rise13
  rw [with135] at h1
  subst h1
  have hrow := ho.row
  obtain ⟨a, cap, rfl⟩ := hrow.shape
  obtain ⟨b, off, rfl, -, hc, -, -, -⟩ := Arow.opn hrow (by simp)
  exact ⟨b, off, cap, he, Lib.hid ⟨hrow, hc⟩, below_add ((Below.refl _ _).alloc (Nat.le_refl _) _) hb (by simp)⟩
theorem known_with (w : World) (o : Obj) (t : TypeId) :
    Calls Try.prog 19 #[.slice (some ⟨w.heap.size + 1, 0, none⟩) 2 2, .agg #[.int .i64 3, .int .u8 2, .int .i64 1, .int .u64 0, .string ⟨#[]⟩]] ((w.alloc o).alloc (.cells #[.int .i64 1, .int .u8 2, .int .i64 1, .int .u64 0, .string ⟨#[]⟩, .int .i64 5, .int .u8 2, .int .i64 1, .int .u64 0, .string ⟨#[]⟩] t)) fun e w' => ∃ b off cap, e = .returned (.slice (some ⟨b, off, none⟩) 3 cap) ∧ Hid (Three5 b off cap w') ∧ Below (w.heap.size + 1) (w.alloc o) w' := by
  have h := known_with0 (w.alloc o) t
  simp only [World.size_alloc] at h
  exact h
theorem known_get (b off cap : Nat) (w : World) (h : Three5 b off cap w) :
    Calls Try.prog 18 #[.slice (some ⟨b, off, none⟩) 3 cap, .int .i64 3] w fun e w' => e = .returned (.tuple #[val 2 1 0 ⟨#[]⟩, .bool true]) ∧ Below w.heap.size w w' :=
  (get_any5 _ [k1, k3, k5] 3 w h.1 (by simp)).mono fun e w' ⟨a, bb, hab, he, hb⟩ => by
    obtain ⟨h1, h2⟩ := hab rise135
    rw [get135] at h1 h2
    subst h1 h2
    exact ⟨he, hb⟩
theorem known_without (b off cap : Nat) (w : World) (h : Three5 b off cap w) :
    Calls Try.prog 20 #[.slice (some ⟨b, off, none⟩) 3 cap, .int .i64 1] w fun e w' => ∃ u, e = .returned u ∧ Hid (Arow w' u [k3, k5]) ∧ Below w.heap.size w w' :=
  (without_any _ [k1, k3, k5] 1 w h.1 (by simp)).mono fun e w' ⟨u, ls, he, hls, _, ho, hb⟩ => by
    have h1 := hls rise135
    rw [without135] at h1
    subst h1
    exact ⟨u, he, Lib.hid ho.row, hb⟩
theorem known_same (u : Value) (b off cap : Nat) (w : World) (h : Three5 b off cap w) (hu : Arow w u [k3, k5]) :
    Calls Try.prog 14 #[u, .slice (some ⟨b, off + 5, none⟩) 2 (cap - 1)] w fun e w' => e = .returned (.bool true) ∧ Below w.heap.size w w' := by
  have ht := (Row.tail (lo := 1) h.1 (by simp)).2 (by have := h.2; omega)
  exact same_any5 u _ [k3, k5] [k3, k5] w hu ht

@[reducible] def KnS (b off B1 B2 : Nat) (w : World) : Prop :=
  w.cell? ⟨b, off + 5, none⟩ = some (.int .i64 3) ∧ (w.cell? ⟨B1, 0, none⟩ = some (.int .u8 2) ∧ w.cell? ⟨B1, 1, none⟩ = some (.int .i64 1) ∧ w.cell? ⟨B1, 2, none⟩ = some (.int .u64 0) ∧ w.cell? ⟨B1, 3, none⟩ = some (.string ⟨#[]⟩)) ∧
    w.cell? ⟨B2, 0, none⟩ = some (.int .u8 2) ∧ w.cell? ⟨B2, 1, none⟩ = some (.int .i64 1) ∧ w.cell? ⟨B2, 2, none⟩ = some (.int .u64 0) ∧ w.cell? ⟨B2, 3, none⟩ = some (.string ⟨#[]⟩)
theorem KnS.mk {b off cap B1 B2 : Nat} {w : World} (h : Three5 b off cap w) (h1 : At B1 2 1 0 ⟨#[]⟩ w) (h2 : At B2 2 1 0 ⟨#[]⟩ w) : KnS b off B1 B2 w := ⟨h.cell, h1, h2⟩

set_option maxRecDepth 100000 in
set_option maxHeartbeats 1000000 in
theorem known_any5 (w : World) :
    Calls Try.prog 9 #[] w fun e w' => e = .returned (.bool true) ∧ Below w.heap.size w w' := by
  have hq := fun w => val_eql 2 1 0 2 1 0 ⟨#[]⟩ ⟨#[]⟩ w
  have hA := At.box 2 1 0 ⟨#[]⟩ w 26
  have hB := (Below.refl w.heap.size w).alloc (Nat.le_refl _) (.cells (vcells 2 1 0 ⟨#[]⟩) 26)
  go_enter Try.func9, Try.ntmps9
  have HW := Lib.hid (fun o t => known_with w o t)
  go_wp2_with (go_at_call 19; refine (HW.out _ _).mono ?_)
  rintro e w1 ⟨b, off, cap, rfl, HT1, hb1⟩
  have hA1 := hA.below (w' := w1) (by simpa using hb1)
  have hB1 : Below w.heap.size w w1 := hB.trans (hb1.mono (by simp))
  go_wp2_with (go_at_call 18; refine (known_get b off cap _ HT1.out).mono ?_)
  rintro e w2 ⟨rfl, hb2⟩
  have hA2 := hA1.below hb2
  have hB2 := below_add hB1 hb2 hB1.size
  have HT2 := Lib.hid (HT1.out.below hb2)
  have hb3 := (Below.refl w2.heap.size w2).alloc (Nat.le_refl _) (.cells (vcells 2 1 0 ⟨#[]⟩) 26)
  have hAA := (At.box 2 1 0 ⟨#[]⟩ w2 26).below (Below.refl _ _).drew
  have hA3 := (hA2.below hb3).below (Below.refl _ _).drew
  have hT3 := (HT2.out.below hb3).below (Below.refl _ _).drew
  have hS3 := KnS.mk hT3 hA3 hAA
  have HB3 := Lib.hid (below_add hB2 hb3 hB2.size).drew
  have HAA := Lib.hid hAA
  have HA3 := Lib.hid hA3
  have HT3 := Lib.hid hT3
  have hcap : ¬ cap = 1 := by have := hT3.2; omega
  clear hb3 hAA hA3 hT3 hA hB hA1 hB1 hA2 hB2 hb1 hb2 HT1 HT2 HW
  go_wp2_with fail
  go_region_held3 (fun w' => KnS b off w.heap.size w2.heap.size w') (first | assumption | trivial)
    (first
      | (go_at_call 20; refine (known_without b off cap _ HT3.out).mono ?_; rintro e w5 ⟨u, rfl, HU, hb5⟩; have hS5 := KnS.mk (HT3.out.below hb5) (HA3.out.below hb5) (HAA.out.below hb5); have HT5 := Lib.hid (HT3.out.below hb5))
      | (go_at_call 14; refine (known_same u b off cap _ HT5.out HU.out).mono ?_; rintro e w6 ⟨rfl, hb6⟩; have hS6 := KnS.mk (HT5.out.below hb6) ((HA3.out.below hb5).below hb6) ((HAA.out.below hb5).below hb6)))
  go_wp2
  go_ret
  exact ⟨rfl, below_add (below_add HB3.out hb5 HB3.out.size) hb6 (below_add HB3.out hb5 HB3.out.size).size⟩
end Go.Proofs.Ythbehjilabedoaa
