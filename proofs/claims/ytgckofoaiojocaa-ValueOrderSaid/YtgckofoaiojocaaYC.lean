
import Derived.Test.YtgckofoaiojocaaProg
import Derived.Test.YtgckofoaiojocaaY4
import Derived.Test.YtgckofoaiojocaaK2
import Derived.Shelf.Pu.Clone
namespace Go.Proofs.Ytgckofoaiojocaa
open Go.RowKit Go.Shelf
set_option linter.unusedVariables false

def cloneRen : Go.Shelf.Ren := ⟨fun | 25 => 32 | n => n, fun | 0 => 0 | 3 => 3 | 4 => 4 | 5 => 5 | 9 => 9 | 37 => 54 | 47 => 61 | n => n, fun n => n⟩
theorem cloneLays : LaysPu.n25 Try.prog cloneRen := {
  mixed := by kernel_rfl
  f25 := Try.func32.trans (congrArg some (by kernel_rfl))
  t0 := Try.underlying0
  a0 := Try.isAgg0
  z0 := Try.sizeOf0
  v0 := Try.zeroValue0
  i0 := by kernel_rfl
  t3 := Try.underlying3
  a3 := Try.isAgg3
  z3 := Try.sizeOf3
  v3 := Try.zeroValue3
  i3 := by kernel_rfl
  t4 := Try.underlying4
  a4 := Try.isAgg4
  z4 := Try.sizeOf4
  v4 := Try.zeroValue4
  i4 := by kernel_rfl
  t5 := Try.underlying5
  a5 := Try.isAgg5
  z5 := Try.sizeOf5
  v5 := Try.zeroValue5
  i5 := by kernel_rfl
  t9 := Try.underlying9
  a9 := Try.isAgg9
  z9 := Try.sizeOf9
  v9 := Try.zeroValue9
  i9 := by kernel_rfl
  t37 := Try.underlying54
  a37 := Try.isAgg54
  z37 := Try.sizeOf54
  v37 := Try.zeroValue54
  i37 := by kernel_rfl
  t47 := Try.underlying61
  a47 := Try.isAgg61
  z47 := Try.sizeOf61
  v47 := Try.zeroValue61
  i47 := by kernel_rfl }
theorem liteClone_any (s : ByteArray) (w : World) (hs : s.size ≤ 281474976710656) :
    Calls Try.prog 32 #[.string s] w fun e w' => e = .returned (.string s) ∧ Below w.heap.size w w' := AnyPu.stringslite_Clone cloneLays s w hs
theorem clone_any (s : ByteArray) (w : World) (hs : s.size ≤ 281474976710656) :
    Calls Try.prog 25 #[.string s] w fun e w' => e = .returned (.string s) ∧ Below w.heap.size w w' := by
  have HS := Lib.hid (fun w => liteClone_any s w hs)
  clear hs
  go_enter Try.func25, Try.ntmps25
  go_wp2_with (go_at_call 32; refine (HS.out _).mono ?_; rintro e w' ⟨rfl, hb⟩)
  go_ret
  exact ⟨rfl, hb⟩

/-- What Text answers. -/
def textV (s : ByteArray) : Value := if textB s then val 4 0 0 s else val 0 0 0 ⟨#[]⟩
def textE (s : ByteArray) : Int := if textB s then 0 else 3
theorem text_any (s : ByteArray) (w : World) :
    Calls Try.prog 8 #[.string s] w fun e w' =>
      e = .returned (.tuple #[textV s, .int .i64 (textE s)]) ∧ Below w.heap.size w w' := by
  have HI := fun w => istext_any s w
  cases ht : textB s
  · rw [ht] at HI
    have HI := Lib.hid HI
    have e1 : textV s = val 0 0 0 ⟨#[]⟩ := by unfold textV; rw [ht]; rfl
    have e2 : textE s = 3 := by unfold textE; rw [ht]; rfl
    rw [e1, e2]
    clear ht e1 e2
    go_enter Try.func8, Try.ntmps8
    go_wp2_with (go_at_call 23; refine (HI.out _).mono ?_; rintro e w' ⟨rfl, hb⟩; obtain ⟨hc, hf⟩ := bcell hb)
    have hB := ((Below.refl w.heap.size w).alloc (Nat.le_refl _) (.cells #[.int .u8 0, .int .i64 0, .int .u64 0, .string ⟨#[]⟩] 24)).trans (hb.mono (by simp))
    exact bodyPost_ret (v := .tuple #[val 0 0 0 ⟨#[]⟩, .int .i64 3]) (by simp [results, Try.results8, go_sem, hc]) rfl
      ⟨rfl, (((hB.setCell (Nat.le_refl _) _).setCell (Nat.le_refl _) _).setCell (Nat.le_refl _) _).setCell (Nat.le_refl _) _⟩
  · have hl : s.size ≤ 281474976710656 := by
      by_cases h : s.size ≤ 64
      · omega
      · rw [textB_long h] at ht; cases ht
    have HC := Lib.hid (fun w => clone_any s w hl)
    rw [ht] at HI
    have HI := Lib.hid HI
    have e1 : textV s = val 4 0 0 s := by unfold textV; rw [ht]; rfl
    have e2 : textE s = 0 := by unfold textE; rw [ht]; rfl
    rw [e1, e2]
    clear ht hl e1 e2
    go_enter Try.func8, Try.ntmps8
    go_wp2_with (first
      | (go_at_call 23; refine (HI.out _).mono ?_; rintro e w' ⟨rfl, hb⟩; obtain ⟨hc, hf⟩ := bcell hb; have hz : w.heap.size < w'.heap.size := by (have := hb.size; simp at this; omega))
      | (go_at_call 25; refine (HC.out _).mono ?_; rintro e w2 ⟨rfl, hb2⟩; obtain ⟨hc2, hf2⟩ := bcell hb2; have hz2 : w.heap.size < w2.heap.size := by (have := hb2.size; omega))
      | (go_at_call 24; refine (textof_any _ _).mono ?_; rintro e w3 ⟨rfl, hb3⟩; obtain ⟨hc3, hf3⟩ := bcell hb3))
    have hB := ((((Below.refl w.heap.size w).alloc (Nat.le_refl _) (.cells #[.int .u8 0, .int .i64 0, .int .u64 0, .string ⟨#[]⟩] 24)).trans (hb.mono (by simp))).trans (hb2.mono (by omega))).trans (hb3.mono (by omega))
    exact bodyPost_ret (v := .tuple #[val 4 0 0 s, .int .i64 0]) (by simp [results, Try.results8, go_sem, hc, hc2, hc3, hz, hz2]) rfl
      ⟨rfl, (((hB.setCell (Nat.le_refl _) _).setCell (Nat.le_refl _) _).setCell (Nat.le_refl _) _).setCell (Nat.le_refl _) _⟩
end Go.Proofs.Ytgckofoaiojocaa
