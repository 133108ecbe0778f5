
import Derived.Test.YthbehjilabedoaaA4
import Derived.RegionTactic
/- A5: a set searched by halves -/
namespace Go.Proofs.Ythbehjilabedoaa
open Go.RowKit
set_option linter.unusedVariables false

theorem clo_any (xs : List Att) (v : Value) (key : Int) (i B0 B1 : Nat) (w : World) (hi : i < xs.length) (h0 : w.cell? ⟨B0, 0, none⟩ = some v) (h1 : w.cell? ⟨B1, 0, none⟩ = some (.int .i64 key)) (hv : Arow w v xs) :
    Calls Try.prog 44 #[.int .i64 i, .pointer (some ⟨B0, 0, none⟩), .pointer (some ⟨B1, 0, none⟩)] w fun e w' => e = .returned (.bool (decide (key ≤ xs[i].key))) ∧ ∃ q, w' = w.drewN q := by
  have hl1 := hv.len
  obtain ⟨a1, cap1, rfl⟩ := hv.shape
  obtain ⟨b1, o1, rfl, -, -, -, -, hat1⟩ := Arow.opn hv (by omega)
  obtain ⟨c0, -, -, -, -⟩ := hat1 i hi
  clear hat1 hv
  generalize xs[i].key = x at *
  go_enter Try.func44, Try.ntmps44
  go_wp2
  go_quiet (fail)
  go_wp2
  go_ret
  exact ⟨rfl, nq, rfl⟩

/-- What Search answers: a place at which what is asked turns from false to true. -/
def Turn (p : Nat → Bool) (n i : Nat) : Prop := i ≤ n ∧ (i < n → p i = true) ∧ (0 < i → p (i - 1) = false)

set_option maxRecDepth 100000 in
theorem search_any (n : Nat) (p : Nat → Bool) (c0 c1 : Value) (w : World) (hsz : n ≤ 1000000)
    (hf : ∀ q i, i < n → Calls Try.prog 44 #[.int .i64 i, c0, c1] (w.drewN q) fun e w' => e = .returned (.bool (p i)) ∧ ∃ q', w' = (w.drewN q).drewN q') :
    Calls Try.prog 43 #[.int .i64 n, .func (.func 44) #[] #[c0, c1]] w fun e w' => ∃ i : Nat, Turn p n i ∧ e = .returned (.int .i64 i) ∧ ∃ q, w' = w.drewN q := by
  have HF := Lib.hid hf
  clear hf
  have eg : ∀ args w, (callFunc 44 args).run Try.prog w = .ok (.enter 44 args) w := enters_of Try.func44 (by kernel_rfl) rfl
  go_enter Try.func43, Try.ntmps43
  go_wp2
  go_loopw [5, 6] (fun s5 s6 wr => ∃ lo hi q : Nat, s5 = .int .i64 lo ∧ s6 = .int .i64 hi ∧ lo ≤ hi ∧ hi ≤ n ∧ wr = w.drewN q ∧ Hid ((hi < n → p hi = true) ∧ (0 < lo → p (lo - 1) = false))) (fun s5 s6 _ => (intOf s6 - intOf s5).toNat)
  case atStart => exact ⟨0, n, 0, rfl, rfl, Nat.zero_le _, Nat.le_refl _, rfl, Lib.hid ⟨fun h => absurd h (Nat.lt_irrefl _), fun h => absurd h (Nat.lt_irrefl _)⟩⟩
  case round =>
    obtain ⟨lo, hi, q, rfl, rfl, hlh, hin, rfl, I⟩ := hrel
    by_cases hlt : lo < hi
    · have hc := HF.out q ((lo + hi) / 2) (by omega)
      rw [show (((lo + hi) / 2 : Nat) : Int) = ((lo : Int) + (hi : Int)) / 2 by omega] at hc
      cases hp : p ((lo + hi) / 2)
      · rw [hp] at hc
        have HP := Lib.hid hp
        clear hp
        go_wp2_with (go_at_call 44; refine hc.mono ?_; rintro e w' ⟨rfl, nq, rfl⟩)
        go_roundw
        case rel => exact ⟨(lo + hi) / 2 + 1, hi, q + nq, by rw [show ((lo : Int) + (hi : Int)) / 2 + 1 = (((lo + hi) / 2 + 1 : Nat) : Int) by omega], rfl, by omega, hin, by simp, Lib.hid ⟨I.out.1, fun _ => by rw [Nat.add_sub_cancel]; exact HP.out⟩⟩
        case measure => simp [intOf]; omega
      · rw [hp] at hc
        have HP := Lib.hid hp
        clear hp
        go_wp2_with (go_at_call 44; refine hc.mono ?_; rintro e w' ⟨rfl, nq, rfl⟩)
        go_roundw
        case rel => exact ⟨lo, (lo + hi) / 2, q + nq, rfl, by rw [show ((lo : Int) + (hi : Int)) / 2 = (((lo + hi) / 2 : Nat) : Int) by omega], by omega, by omega, by simp, Lib.hid ⟨fun _ => HP.out, I.out.2⟩⟩
        case measure => simp [intOf]; omega
    · obtain rfl : hi = lo := by omega
      go_wp2
      go_ret
      exact ⟨hi, ⟨hin, I.out.1, I.out.2⟩, rfl, q, rfl⟩
end Go.Proofs.Ythbehjilabedoaa
