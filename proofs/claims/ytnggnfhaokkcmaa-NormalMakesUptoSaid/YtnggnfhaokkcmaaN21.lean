
import Derived.Test.YtnggnfhaokkcmaaN20
/- N21: tame; known's parts -/
namespace Go.Proofs.Ytnggnfhaokkcmaa
open Go.RowKit
set_option linter.unusedVariables false
set_option maxRecDepth 100000

def TmP (xs : List Oz) (e : Ending) : Prop := ∃ b : Bool, e = .returned (.bool b) ∧ (b = true → ∀ x ∈ xs, FP x)
theorem TmP.no (xs : List Oz) : TmP xs (.returned (.bool false)) := ⟨false, rfl, fun h => (by cases h)⟩
theorem TmP.yes {xs : List Oz} (h : ∀ x ∈ xs, FP x) : TmP xs (.returned (.bool true)) := ⟨true, rfl, fun _ => h⟩
set_option maxHeartbeats 4000000 in
theorem tame_any (v u : Value) (ks : List Key) (xs : List Oz) (w : World) (hs : Krow w v ks) (hx : Orow w u xs) (hW : ∀ z ∈ xs, OpW z) (hsm : ∀ z ∈ xs, Sm z) (hA : ∀ z ∈ xs, ∀ a ∈ z.st, a.s.size ≤ 1048576) (hC : ∀ z ∈ xs, ∀ a ∈ z.pt, a.s.size ≤ 1048576) :
    Calls Try.prog 8 #[v, u] w fun e w' => TmP xs e ∧ Below w.heap.size w w' := by
  have HSZ := Lib.hid (size_any u xs w hx)
  have HMK := Lib.hid (fun W (hb : Below w.heap.size w W) => rmay_keys v ks W (hs.below hb (Nat.le_refl _)))
  have HMY := Lib.hid (fun W (hb : Below w.heap.size w W) => rmayO_any v u ks xs W (hs.below hb (Nat.le_refl _)) (hx.below hb) hW hsm hA hC)
  have hkl := hs.len
  obtain ⟨a1, cap1, rfl⟩ := hs.shape
  clear hs hx hW hsm hA hC
  by_cases h1 : 64 < ks.length
  · have d1 : decide ((64 : Int) < (ks.length : Int)) = true := by rw [decide_eq_true_iff]; omega
    clear h1
    go_enter Try.func8, Try.ntmps8
    go_wp2
    go_ret
    exact ⟨TmP.no _, Below.refl _ _⟩
  have d1 : decide ((64 : Int) < (ks.length : Int)) = false := by rw [decide_eq_false_iff_not]; omega
  clear h1
  go_enter Try.func8, Try.ntmps8
  go_wp2_with (go_at_call 9; (with_reducible refine HSZ.out.mono ?_); rintro e w1 ⟨⟨n, rfl⟩, hb⟩; have HB := Lib.hid hb; clear hb)
  · refine bodyPost_ret (results_tmp rfl _ _ _) (by rfl) ?_
    exact ⟨TmP.no _, HB.out⟩
  go_wp2_with (go_at_call 24; (with_reducible refine (HMK.out _ HB.out).mono ?_); rintro e w2 ⟨hb, b, rfl, hbb⟩; have HB2 := Lib.hid (below_add HB.out hb HB.out.size); clear hb hbb)
  rotate_left
  · refine bodyPost_ret (results_tmp rfl _ _ _) (by rfl) ?_
    exact ⟨TmP.no _, HB2.out⟩
  go_wp2_with (go_at_call 25; (with_reducible refine (HMY.out _ HB2.out).mono ?_); rintro e w3 ⟨⟨m, rfl, hm⟩, hb⟩; have HB3 := Lib.hid (below_add HB2.out hb HB2.out.size); have HM := Lib.hid hm; clear hb hm)
  refine bodyPost_ret (results_tmp rfl _ _ _) (by rfl) ?_
  exact ⟨⟨m == 0, rfl, fun h => HM.out (by simpa using h)⟩, HB3.out⟩
end Go.Proofs.Ytnggnfhaokkcmaa
