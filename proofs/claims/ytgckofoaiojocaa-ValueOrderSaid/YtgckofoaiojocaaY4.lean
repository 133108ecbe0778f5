
import Derived.Test.YtgckofoaiojocaaY3
import Derived.Test.YtgckofoaiojocaaL2
import Derived.Test.YtgckofoaiojocaaA11
import Derived.Lib.ConvBytes
import Derived.Laws.AppendOwn
import Derived.Deep.RegionHeld3
namespace Go.Proofs.Ytgckofoaiojocaa
open Go.RowKit
set_option linter.unusedVariables false

/-- A text's bytes as numbers. -/
def sbytes (s : ByteArray) : List Int := s.data.toList.map fun b => (b.toNat : Int)
theorem sbytes_len (s : ByteArray) : (sbytes s).length = s.size := by unfold sbytes; simp
theorem sbytes_wf (s : ByteArray) : ∀ b ∈ sbytes s, 0 ≤ b ∧ b < 256 := by
  intro b hb
  unfold sbytes at hb
  obtain ⟨x, _, rfl⟩ := List.mem_map.1 hb
  have := UInt8.toNat_lt x
  omega
theorem sbytes_bl (s : ByteArray) : strOfNums (sbytes s) = s := by
  apply ByteArray.ext
  apply Array.ext'
  unfold strOfNums sbytes
  simp [List.map_map, Function.comp_def]
theorem bytesWorld_below (w : World) (e : TypeId) (s : ByteArray) : Below w.heap.size w (Lib.bytesWorld w e s) :=
  ⟨rfl, rfl, rfl, by rw [Lib.bytesWorld_size]; omega, fun j hj => Lib.bytesWorld_at_old w e s j hj⟩
/-- '[]byte(s)': the bytes, in a row of the call's own. -/
theorem bytes_of (s : ByteArray) (w : World) (h : s.size ≤ 1000000) : ∃ v w1, (convert 9 54 (.string s)).run Try.prog w = .ok v w1 ∧ Ints .u8 w1 v (sbytes s) ∧ Below w.heap.size w w1 := by
  refine ⟨_, _, Lib.run_convert_string_bytes w 9 54 5 s Try.underlying9 Try.underlying54 Try.underlying5, ?_, bytesWorld_below w _ s⟩
  have hm : s.size ≤ maxLen := by unfold maxLen; omega
  have h1 := grownCap_ge w s.size 0 5
  have h2 := grownCap_le_maxLen w s.size 0 5 hm
  by_cases h0 : s.size = 0
  · refine .inl ⟨_, _, by rw [h0], ?_, h2, by simp⟩
    exact List.length_eq_zero_iff.1 (by rw [sbytes_len]; exact h0)
  · refine .inr ⟨_, _, _, by rw [sbytes_len], by rw [sbytes_len]; omega, by rw [sbytes_len]; exact h1, h2, fun j hj => ?_⟩
    rw [sbytes_len] at hj
    rw [Nat.zero_add, Lib.bytesWorld_cell w _ s j hj]
    unfold sbytes
    have : j < s.data.toList.length := by simpa using hj
    simp [List.getD, hj]

/-- May a text be: at most 64 bytes, and they are read. -/
def textB (s : ByteArray) : Bool := decide (s.size ≤ 64) && decide (rErr (sbytes s) = 0)
theorem textB_long {s : ByteArray} (h : ¬ s.size ≤ 64) : textB s = false := by unfold textB; simp; omega
theorem textB_short {s : ByteArray} (h : s.size ≤ 64) : textB s = (rErr (sbytes s) == 0) := by unfold textB; simp [h]; rfl

theorem istext_any (s : ByteArray) (w : World) :
    Calls Try.prog 23 #[.string s] w fun e w' => e = .returned (.bool (textB s)) ∧ Below w.heap.size w w' := by
  by_cases hl : s.size ≤ 64
  · obtain ⟨v, w1, hc, hi, hb⟩ := bytes_of s w (by omega)
    have hr := ((read_any v (sbytes s) w1 hi (by rw [sbytes_len]; omega)).mono fun e w' h => read_out h)
    have HR := Lib.hid hr
    clear hr hi
    have HT := Lib.hid (textB_short hl)
    go_enter Try.func23, Try.ntmps23
    go_wp2_with (go_at_call 31; refine HR.out.mono ?_; rintro e w' ⟨hb2, v2, rfl, _⟩)
    go_ret
    exact ⟨ret_bool HT.out.symm, hb.trans (hb2.mono hb.size)⟩
  · have HT := Lib.hid (textB_long hl)
    go_enter Try.func23, Try.ntmps23
    go_wp2
    go_ret
    exact ⟨ret_bool HT.out.symm, Below.refl _ _⟩
end Go.Proofs.Ytgckofoaiojocaa
