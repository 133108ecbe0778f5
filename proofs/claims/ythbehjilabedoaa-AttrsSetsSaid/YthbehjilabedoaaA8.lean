
import Derived.Test.YthbehjilabedoaaA7
import Derived.Lib.AppendZeros
/- A8: Get; Grow, Concat, Clone -/
namespace Go.Proofs.Ythbehjilabedoaa
open Go.RowKit
set_option linter.unusedVariables false

theorem getV_same {a : Att} {b : Bool} (c : Att) (h : a = c) : (Ending.returned (.tuple #[vv a, .bool b]) : Ending) = .returned (.tuple #[vv c, .bool b]) := by rw [h]

theorem below_set4 {w W : World} (h : Below w.heap.size w W) (v0 v1 v2 v3 : Value) : Below w.heap.size w ((((W.setCell ⟨w.heap.size, 0, none⟩ v0).setCell ⟨w.heap.size, 1, none⟩ v1).setCell ⟨w.heap.size, 2, none⟩ v2).setCell ⟨w.heap.size, 3, none⟩ v3) :=
  (((h.setCell (p := ⟨w.heap.size, 0, none⟩) (Nat.le_refl _) _).setCell (p := ⟨w.heap.size, 1, none⟩) (Nat.le_refl _) _).setCell (p := ⟨w.heap.size, 2, none⟩) (Nat.le_refl _) _).setCell (p := ⟨w.heap.size, 3, none⟩) (Nat.le_refl _) _

/-- Get: of keys that rise, the key's value, and true; a zero one and false. -/
theorem get_any5 (v : Value) (xs : List Att) (key : Int) (w : World) (hv : Arow w v xs) (hl : xs.length ≤ 1000000) :
    Calls Try.prog 18 #[v, .int .i64 key] w fun e w' => ∃ a b, (Rise xs → a = (getA xs key).getD noAtt ∧ b = (getA xs key).isSome) ∧ e = .returned (.tuple #[vv a, .bool b]) ∧ Below w.heap.size w w' := by
  have hB := (Below.refl w.heap.size w).alloc (Nat.le_refl _) (.cells #[.int .u8 0, .int .i64 0, .int .u64 0, .string ⟨#[]⟩] 26)
  have hvW := hv.below hB (Nat.le_refl _)
  have HPL := Lib.hid (place_any v xs key _ hvW hl)
  have HV := Lib.hid hvW
  obtain ⟨a1, cap1, rfl⟩ := hv.shape
  clear hv hvW
  go_enter Try.func18, Try.ntmps18
  go_wp2_with (go_at_call 33; refine HPL.out.mono ?_)
  rintro e w1 ⟨i, ht, rfl, hb⟩
  obtain ⟨hc, hf⟩ := bcell hb
  have hz : w.heap.size < w1.heap.size := by have := hb.size; simp at this; omega
  cases hth : thereB xs key i
  · have HP := Lib.hid (fun hr => (turn_hi_no hr ht hth).2)
    have HB := Lib.hid (below_set4 (below_add hB hb hB.size) (.int .u8 0) (.int .i64 0) (.int .u64 0) (.string ⟨#[]⟩))
    clear ht HPL
    go_wp2
    exact bodyPost_ret (v := .tuple #[vv noAtt, .bool false]) (by simp [results, Try.results18, go_sem, hc]) rfl
      ⟨noAtt, false, fun hr => by rw [HP.out hr]; exact ⟨rfl, rfl⟩, rfl, HB.out⟩
  · obtain ⟨hlt, hk⟩ := there_yes hth
    have HP := Lib.hid (fun hr => (turn_hi_yes hr hlt ht hk).2)
    obtain ⟨b1, o1, rfl, -, -, -, hbl, hat1⟩ := Arow.opn (HV.out.below hb (Nat.le_refl _)) (by omega)
    obtain ⟨c0, c1, c2, c3, c4⟩ := hat1 i hlt
    have HB0 := Lib.hid (below_add hB hb hB.size)
    clear hat1 ht hk HPL
    generalize xs[i] = x at *
    obtain ⟨x1, x2, x3, x4, x5⟩ := x
    simp only at c0 c1 c2 c3 c4
    go_wp2
    have HB := Lib.hid (below_set4 HB0.out (.int .u8 x2) (.int .i64 x3) (.int .u64 x4) (.string x5))
    exact bodyPost_ret (v := .tuple #[val x2 x3 x4 x5, .bool true]) (by simp [results, Try.results18, go_sem, hc]) rfl
      ⟨⟨x1, x2, x3, x4, x5⟩, true, fun hr => by rw [HP.out hr]; exact ⟨rfl, rfl⟩, rfl, HB.out⟩

/-- How a slice lies in a row of slices. -/
def slC : Cel (Option Addr × Nat × Nat) := ⟨fun x => [.slice x.1 x.2.1 x.2.2], 1, fun _ => rfl, fun x u hu => by simp at hu; subst hu; rfl, by decide⟩

theorem info_att5 : ∃ i0, Try.prog.info? 28 = some i0 ∧ i0.zero = some (av noAtt) ∧ i0.size = 5 ∧ i0.bytes = 48 := by
  refine ⟨_, rfl, ?_, ?_, ?_⟩ <;> kernel_rfl

theorem grow_own (w : World) (n : Nat) (hn : n ≤ 100000) (z : Array Value) (hz : z.size = 5) :
    ((w.alloc (.cells (Builtin.zeroCells z n ++ Builtin.zeroCells z (grownCap w n 0 28 - n)) 28)).drew).ownsRow w.heap.size 28 5 (.slice (some ⟨w.heap.size, 0, none⟩) 0 (grownCap w n 0 28)) 0 [] := by
  have hm : n ≤ maxLen := by unfold maxLen; omega
  have h1 := grownCap_ge w n 0 28
  have h2 := grownCap_le_maxLen w n 0 28 hm
  have hs : (Builtin.zeroCells z n ++ Builtin.zeroCells z (grownCap w n 0 28 - n)).size = grownCap w n 0 28 * 5 := by
    rw [Array.size_append, size_zeroCells, size_zeroCells, hz, ← Nat.add_mul, Nat.add_sub_cancel' h1]
  exact ⟨rfl, .inr ⟨w.heap.size, _, _, rfl, Nat.le_refl _, heap_alloc_new w _, Nat.zero_le _, h2, hs, by simp⟩⟩
theorem grow_any5 (n : Nat) (w : World) (hn : n ≤ 100000) :
    Calls Try.prog 45 #[.slice none 0 0, .int .i64 n] w fun e w' => ∃ v, e = .returned v ∧ w'.ownsRow w.heap.size 28 5 v 0 [] ∧ Below w.heap.size w w' := by
  obtain ⟨i0, hi, hz0, hz1, hz2⟩ := info_att5
  by_cases h0 : 0 < n
  · have hrun := fun (w : World) => Lib.run_append_nil_zeros (P := Try.prog) w 23 3 23 28 i0 (av noAtt) .i64 .i64 Try.underlying23 Try.underlying3 hi hz0 n h0 (by omega) (by omega) (by rw [hz2]; omega)
    have d1 : decide ((n : Int) < 0) = false := by rw [decide_eq_false_iff_not]; omega
    have d2 : decide (0 < (n : Int)) = true := by rw [decide_eq_true_iff]; omega
    go_enter Try.func45, Try.ntmps45
    go_wp2_with (at_builtin; refine Lib.wpList_append_run _ rfl _ _ _ _ rfl _ _ rfl rfl _ _ (hrun _) ?_)
    go_ret
    exact ⟨_, rfl, grow_own w n hn _ rfl, ((Below.refl _ _).alloc (Nat.le_refl _) _).drew⟩
  · obtain rfl : n = 0 := by omega
    go_enter Try.func45, Try.ntmps45
    go_wp2
    go_ret
    exact ⟨_, rfl, ⟨rfl, .inl ⟨rfl, rfl⟩⟩, Below.refl _ _⟩
end Go.Proofs.Ythbehjilabedoaa
