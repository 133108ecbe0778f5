
import Derived.Test.YteilhjkkgdgbkaaNA
import Derived.Carry
/- NBS: what an arena of string does -/
namespace Go.Proofs.Yteilhjkkgdgbkaa
open Go.RowKit
set_option linter.unusedVariables false

def K_S : Kd ByteArray := ⟨78, 76, 80, fun x => .string x, .string ⟨#[]⟩, fun _ => rfl, rfl, by decide, by decide, by decide, by decide, by decide, by decide⟩
section
variable {B : Nat} {S : Nat → Prop} {ab st : Nat} {sv fv : Value} {ps : List (Option ByteArray)} {fr : List Nat}
theorem iszero_S (w : World) (h : ArM K_S B S ab st sv fv ps fr w) :
    Calls Try.prog 34 #[.pointer (some ⟨ab, 0, none⟩)] w fun e w' => e = .returned (.bool false) ∧ w' = w := by
  obtain ⟨c0, -⟩ := h.cells
  clear h
  go_enter Try.func34, Try.ntmps34
  go_wp2
  go_ret
  exact ⟨rfl, rfl⟩
theorem cap_S (w : World) (h : ArM K_S B S ab st sv fv ps fr w) :
    Calls Try.prog 27 #[.pointer (some ⟨ab, 0, none⟩)] w fun e w' => e = .returned (.int .i64 (ps.length : Nat)) ∧ w' = w := by
  obtain ⟨c0, c1, -⟩ := h.cells
  have HZ := Lib.hid (iszero_S w h)
  obtain ⟨sa, sc, rfl, -, -⟩ := own_shape h.hsv
  clear h
  go_enter Try.func27, Try.ntmps27
  go_wp2_with (go_at_call 34; refine HZ.out.mono ?_; rintro e w1 ⟨rfl, rfl⟩)
  go_ret
  exact ⟨rfl, rfl⟩
theorem len_S (w : World) (h : ArM K_S B S ab st sv fv ps fr w) (hle : fr.length ≤ ps.length) (hb : ps.length ≤ 1000000) :
    Calls Try.prog 26 #[.pointer (some ⟨ab, 0, none⟩)] w fun e w' => e = .returned (.int .i64 (ps.length - fr.length : Nat)) ∧ ∃ q, w' = w.drewN q := by
  have HC := Lib.hid (fun q => (h.below (blw_drewN (Below.refl _ w) q)).cells)
  have HZ := Lib.hid (iszero_S w h)
  obtain ⟨sa, sc, rfl, -, -⟩ := own_shape h.hsv
  obtain ⟨fa, fc, rfl, -, -⟩ := own_shape h.hfv
  obtain ⟨p, hp⟩ : ∃ p, ps.length = p := ⟨_, rfl⟩
  obtain ⟨f, hf⟩ : ∃ f, fr.length = f := ⟨_, rfl⟩
  rw [hp] at hle hb HC ⊢
  rw [hf] at hle HC ⊢
  have hw1 : IntKind.i64.wrap ((p : Int) - (f : Int)) = (p : Int) - (f : Int) := by rw [IntKind.wrap_i64]; omega
  have e1 : ((p - f : Nat) : Int) = (p : Int) - (f : Int) := by omega
  rw [e1]
  have c0 : ∀ q, (w.drewN q).cell? ⟨ab, 0, none⟩ = some (.pointer (some ⟨st, 0, none⟩)) := fun q => (HC.out q).1
  have c1 : ∀ q, (w.drewN q).cell? ⟨st, 0, none⟩ = some (.slice sa p sc) := fun q => (HC.out q).2.1
  have c2 : ∀ q, (w.drewN q).cell? ⟨st, 1, none⟩ = some (.slice fa f fc) := fun q => (HC.out q).2.2
  have d0 := c0 0
  have d1 := c1 0
  have d2 := c2 0
  rw [World.drewN_zero] at d0 d1 d2
  clear h HC hle e1 hp hf
  go_enter Try.func26, Try.ntmps26
  go_wp2_with (go_at_call 34; refine HZ.out.mono ?_; rintro e w1 ⟨rfl, rfl⟩)
  go_quiet (fail)
  go_wp2
  go_ret
  exact ⟨rfl, _, rfl⟩
theorem find_yes_S (w : World) {g cap k : Nat} {x : ByteArray} (h : ArM K_S B S ab st (.slice (some ⟨g, 0, none⟩) ps.length cap) fv ps fr w) (hk : ps[k]? = some (some x)) (hb : ps.length ≤ 1000000) :
    Calls Try.prog 33 #[.pointer (some ⟨ab, 0, none⟩), .int .i64 (k : Nat)] w fun e w' => e = .returned (.tuple #[.pointer (some ⟨g, k * 2, none⟩), .int .i64 0]) ∧ w' = w := by
  obtain ⟨c0, c1, -⟩ := h.cells
  have HP := Lib.hid (cap_S w h)
  obtain ⟨p0, p1, p2⟩ := h.place hk rfl
  have hlt := (List.getElem?_eq_some_iff.1 hk).1
  have g0 : decide ((k : Int) < 0) = false := by rw [decide_eq_false_iff_not]; omega
  have g1 : decide ((ps.length : Int) ≤ (k : Int)) = false := by rw [decide_eq_false_iff_not]; omega
  have k0 : (0 : Int) ≤ (k : Int) := by omega
  have k1 : (k : Int) < (ps.length : Int) := by omega
  clear h hk
  go_enter Try.func33, Try.ntmps33
  go_wp2_with (go_at_call 27; refine HP.out.mono ?_; rintro e w1 ⟨rfl, rfl⟩)
  exact bodyPost_ret (by simp [results, Try.results33, go_sem]) rfl ⟨rfl, rfl⟩
theorem find_no_S (A : ArS ByteArray) (i : Int) (w : World) (h : ArM K_S B S ab st sv fv A.ps fr w) (hh : A.has i = false) (hb : A.ps.length ≤ 1000000) :
    Calls Try.prog 33 #[.pointer (some ⟨ab, 0, none⟩), .int .i64 i] w fun e w' => e = .returned (.tuple #[.pointer none, .int .i64 5]) ∧ w' = w := by
  obtain ⟨c0, c1, -⟩ := h.cells
  have HP := Lib.hid (cap_S w h)
  by_cases h0 : i < 0
  · have g0 : decide (i < 0) = true := by rw [decide_eq_true_iff]; exact h0
    clear h hh
    go_enter Try.func33, Try.ntmps33
    go_wp2_with (go_at_call 27; refine HP.out.mono ?_; rintro e w1 ⟨rfl, rfl⟩)
    exact bodyPost_ret (by simp [results, Try.results33, go_sem]) rfl ⟨rfl, rfl⟩
  · have g0 : decide (i < 0) = false := by rw [decide_eq_false_iff_not]; exact h0
    by_cases h1 : (A.ps.length : Int) ≤ i
    · have g1 : decide ((A.ps.length : Int) ≤ i) = true := by rw [decide_eq_true_iff]; exact h1
      clear h hh
      go_enter Try.func33, Try.ntmps33
      go_wp2_with (go_at_call 27; refine HP.out.mono ?_; rintro e w1 ⟨rfl, rfl⟩)
      exact bodyPost_ret (by simp [results, Try.results33, go_sem]) rfl ⟨rfl, rfl⟩
    · have g1 : decide ((A.ps.length : Int) ≤ i) = false := by rw [decide_eq_false_iff_not]; exact h1
      obtain ⟨k, rfl⟩ : ∃ k : Nat, i = k := ⟨i.toNat, by omega⟩
      obtain ⟨g, cap, rfl, -, -⟩ := h.form (by omega)
      have hk : A.ps[k]? = some none := by
        rw [at_get (by omega)]
        rw [has_nat] at hh
        cases e : A.at_ k with
        | none => rfl
        | some x => rw [e] at hh; cases hh
      obtain ⟨p0, p1, p2⟩ := h.place hk rfl
      have k0 : (0 : Int) ≤ (k : Int) := by omega
      have k1 : (k : Int) < (A.ps.length : Int) := by omega
      clear h hh hk
      go_enter Try.func33, Try.ntmps33
      go_wp2_with (go_at_call 27; refine HP.out.mono ?_; rintro e w1 ⟨rfl, rfl⟩)
      exact bodyPost_ret (by simp [results, Try.results33, go_sem]) rfl ⟨rfl, rfl⟩

theorem at_yes_S (w : World) {g cap k : Nat} {x : ByteArray} (h : ArM K_S B S ab st (.slice (some ⟨g, 0, none⟩) ps.length cap) fv ps fr w) (hk : ps[k]? = some (some x)) (hb : ps.length ≤ 1000000) :
    Calls Try.prog 25 #[.pointer (some ⟨ab, 0, none⟩), .int .i64 (k : Nat)] w fun e w' => e = .returned (.tuple #[.string x, .int .i64 0]) ∧ w' = w := by
  have HF := Lib.hid (find_yes_S w h hk hb)
  obtain ⟨p0, p9, p2⟩ := h.place hk rfl
  have p1 : w.cell? ⟨g, k * 2 + 1, none⟩ = some (.string x) := p9
  clear p9
  clear h hk p0
  go_enter Try.func25, Try.ntmps25
  go_wp2_with (go_at_call 33; refine HF.out.mono ?_; rintro e w1 ⟨rfl, rfl⟩)
  exact bodyPost_ret (by simp [results, Try.results25, go_sem]) rfl ⟨rfl, rfl⟩
theorem at_no_S (A : ArS ByteArray) (i : Int) (w : World) (h : ArM K_S B S ab st sv fv A.ps fr w) (hh : A.has i = false) (hb : A.ps.length ≤ 1000000) :
    Calls Try.prog 25 #[.pointer (some ⟨ab, 0, none⟩), .int .i64 i] w fun e w' => e = .returned (.tuple #[.string ⟨#[]⟩, .int .i64 5]) ∧ w' = w := by
  have HF := Lib.hid (find_no_S A i w h hh hb)
  clear h hh
  go_enter Try.func25, Try.ntmps25
  go_wp2_with (go_at_call 33; refine HF.out.mono ?_; rintro e w1 ⟨rfl, rfl⟩)
  exact bodyPost_ret (by simp [results, Try.results25, go_sem]) rfl ⟨rfl, rfl⟩
theorem put_yes_S (w : World) {g cap k : Nat} {x : ByteArray} (y : ByteArray) (h : ArM K_S B S ab st (.slice (some ⟨g, 0, none⟩) ps.length cap) fv ps fr w) (hk : ps[k]? = some (some x)) (hb : ps.length ≤ 1000000) :
    Calls Try.prog 24 #[.pointer (some ⟨ab, 0, none⟩), .int .i64 (k : Nat), .string y] w fun e w' => e = .returned (.int .i64 0) ∧
      ArM K_S B S ab st (.slice (some ⟨g, 0, none⟩) ps.length cap) fv (ps.set k (some y)) fr w' ∧ Off S w w' := by
  have HF := Lib.hid (find_yes_S w h hk hb)
  obtain ⟨p0, p9, p2⟩ := h.place hk rfl
  have p1 : w.cell? ⟨g, k * 2 + 1, none⟩ = some (.string x) := p9
  clear p9
  have HM := Lib.hid (h.put1 hk y)
  have HO := Lib.hid (Off.of_grown (S := S) (grown_set (w := w) (g := g) (o := k * 2 + 1) (.string y)) (fun g' hg' => by cases hg'; exact h.sSv _ rfl))
  clear h hk p0
  go_enter Try.func24, Try.ntmps24
  go_wp2_with (go_at_call 33; refine HF.out.mono ?_; rintro e w1 ⟨rfl, rfl⟩)
  go_ret
  exact ⟨rfl, HM.out, HO.out⟩
theorem put_no_S (A : ArS ByteArray) (i : Int) (y : ByteArray) (w : World) (h : ArM K_S B S ab st sv fv A.ps fr w) (hh : A.has i = false) (hb : A.ps.length ≤ 1000000) :
    Calls Try.prog 24 #[.pointer (some ⟨ab, 0, none⟩), .int .i64 i, .string y] w fun e w' => e = .returned (.int .i64 5) ∧ w' = w := by
  have HF := Lib.hid (find_no_S A i w h hh hb)
  clear h hh
  go_enter Try.func24, Try.ntmps24
  go_wp2_with (go_at_call 33; refine HF.out.mono ?_; rintro e w1 ⟨rfl, rfl⟩)
  go_ret
  exact ⟨rfl, rfl⟩
theorem free_no_S (A : ArS ByteArray) (i : Int) (w : World) (h : ArM K_S B S ab st sv fv A.ps fr w) (hh : A.has i = false) (hb : A.ps.length ≤ 1000000) :
    Calls Try.prog 23 #[.pointer (some ⟨ab, 0, none⟩), .int .i64 i] w fun e w' => e = .returned (.int .i64 5) ∧ w' = w := by
  have HF := Lib.hid (find_no_S A i w h hh hb)
  clear h hh
  go_enter Try.func23, Try.ntmps23
  go_wp2_with (go_at_call 33; refine HF.out.mono ?_; rintro e w1 ⟨rfl, rfl⟩)
  go_ret
  exact ⟨rfl, rfl⟩
end
end Go.Proofs.Yteilhjkkgdgbkaa
