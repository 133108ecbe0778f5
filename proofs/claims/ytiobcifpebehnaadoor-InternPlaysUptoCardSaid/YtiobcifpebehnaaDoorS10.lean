
import Derived.Test.YtiobcifpebehnaaDoorS6
import Derived.Test.YtiobcifpebehnaaDoorVB
/- S12: Fits, and the reference's -/
namespace Go.Proofs.YtiobcifpebehnaaDoor
open Go.RowKit
set_option linter.unusedVariables false

def fitsB (ks : List Key) (id : Int) (k n f : Int) (s : ByteArray) : Bool :=
  match fnd ks id with
  | none => false
  | some key => (k == key.kind) && vmay k n f s
theorem fitsB_none {ks : List Key} {id k n f : Int} {s : ByteArray} (h : fnd ks id = none) : fitsB ks id k n f s = false := by unfold fitsB; rw [h]
theorem fitsB_some {ks : List Key} {id k n f : Int} {s : ByteArray} {key : Key} (h : fnd ks id = some key) : fitsB ks id k n f s = ((k == key.kind) && vmay k n f s) := by unfold fitsB; rw [h]

set_option maxRecDepth 100000 in
theorem fits_any (v : Value) (ks : List Key) (id : Int) (k n f : Int) (s : ByteArray) (w : World) (hs : Sch w v ks) (hw : (Lit.int .i64 id).wf = true) (h0 : 0 ≤ f) (h1 : f < 18446744073709551616) :
    Calls Tryd.prog 45 #[v, .int .i64 id, val k n f s] w fun e w' => e = .returned (.bool (fitsB ks id k n f s)) ∧ Below w.heap.size w w' := by
  have hB := (Below.refl w.heap.size w).alloc (Nat.le_refl _) (.cells (vcells k n f s) 45)
  have hA := At.box k n f s w 45
  have HF := find_any v ks id _ (hs.below hB (Nat.le_refl _)) hw
  have HM := fun w => vmay_any k n f s w h0 h1
  cases hf : fnd ks id with
  | none =>
    rw [fndV_none hf] at HF
    rw [fitsB_none hf]
    have HF := Lib.hid HF
    clear hf hs HM
    go_enter Tryd.func45, Tryd.ntmps45
    go_wp2_with (go_at_call 54; ((with_reducible refine HF.out.mono ?_); rintro e w1 ⟨rfl, hb1⟩))
    go_ret
    exact ⟨rfl, (below_add hB hb1 hB.size).alloc (below_add hB hb1 hB.size).size _⟩
  | some key =>
    rw [fndV_some hf] at HF
    rw [fitsB_some hf]
    have HF := Lib.hid HF
    generalize vmay k n f s = m at HM ⊢
    have HM := Lib.hid HM
    clear hf hs
    obtain ⟨k1, k2, k3, k4, k5, k6⟩ := key
    simp only
    by_cases q : k = k3
    · subst q
      go_enter Tryd.func45, Tryd.ntmps45
      go_wp2_with (first
        | (go_at_call 54; ((with_reducible refine HF.out.mono ?_); rintro e w1 ⟨rfl, hb1⟩; have hA1 := (hA.below hb1).below ((Below.refl _ _).alloc (Nat.le_refl _) (.cells (kca ⟨k1, k2, k, k4, k5, k6⟩) 67)); have hC := (below_add hB hb1 hB.size).alloc (below_add hB hb1 hB.size).size (.cells (kca ⟨k1, k2, k, k4, k5, k6⟩) 67)))
        | (go_at_call 53; ((with_reducible refine (HM.out _).mono ?_); rintro e w2 ⟨rfl, hb2⟩)))
      go_ret
      exact ⟨by simp, below_add hC hb2 hC.size⟩
    · have d : (k == k3) = false := by simpa using q
      rw [d, Bool.false_and]
      clear q
      go_enter Tryd.func45, Tryd.ntmps45
      go_wp2_with (first
        | (go_at_call 54; ((with_reducible refine HF.out.mono ?_); rintro e w1 ⟨rfl, hb1⟩; have hA1 := (hA.below hb1).below ((Below.refl _ _).alloc (Nat.le_refl _) (.cells (kca ⟨k1, k2, k3, k4, k5, k6⟩) 67)); have hC := (below_add hB hb1 hB.size).alloc (below_add hB hb1 hB.size).size (.cells (kca ⟨k1, k2, k3, k4, k5, k6⟩) 67))))
      go_ret
      exact ⟨rfl, hC⟩

set_option maxRecDepth 100000 in
theorem rfits_any (v : Value) (ks : List Key) (id : Int) (k n f : Int) (s : ByteArray) (w : World) (hv : Krow w v ks) (h0 : 0 ≤ f) (h1 : f < 18446744073709551616) (hsz : s.size ≤ 1048576) :
    Calls Tryd.prog 50 #[v, .int .i64 id, val k n f s] w fun e w' => e = .returned (.bool (fitsB ks id k n f s)) ∧ Below w.heap.size w w' := by
  have hB := (Below.refl w.heap.size w).alloc (Nat.le_refl _) (.cells (vcells k n f s) 45)
  have hA := At.box k n f s w 45
  have HF := rfind_any v ks id _ (hv.below hB (Nat.le_refl _))
  have HM := fun w => rvmay_any k n f s w h0 h1 hsz
  cases hf : fnd ks id with
  | none =>
    rw [fndV_none hf] at HF
    rw [fitsB_none hf]
    have HF := Lib.hid HF
    clear hf hv HM
    go_enter Tryd.func50, Tryd.ntmps50
    go_wp2_with (go_at_call 59; ((with_reducible refine HF.out.mono ?_); rintro e w1 ⟨rfl, hb1⟩))
    go_ret
    exact ⟨rfl, (below_add hB hb1 hB.size).alloc (below_add hB hb1 hB.size).size _⟩
  | some key =>
    rw [fndV_some hf] at HF
    rw [fitsB_some hf]
    have HF := Lib.hid HF
    generalize vmay k n f s = m at HM ⊢
    clear hf hv
    obtain ⟨k1, k2, k3, k4, k5, k6⟩ := key
    simp only
    cases m
    · have HM := Lib.hid HM
      rw [Bool.and_false]
      go_enter Tryd.func50, Tryd.ntmps50
      go_wp2_with (first
        | (go_at_call 59; ((with_reducible refine HF.out.mono ?_); rintro e w1 ⟨rfl, hb1⟩; have hA1 := (hA.below hb1).below ((Below.refl _ _).alloc (Nat.le_refl _) (.cells (kca ⟨k1, k2, k3, k4, k5, k6⟩) 67)); have hC := (below_add hB hb1 hB.size).alloc (below_add hB hb1 hB.size).size (.cells (kca ⟨k1, k2, k3, k4, k5, k6⟩) 67)))
        | (go_at_call 49; ((with_reducible refine (HM.out _).mono ?_); rintro e w2 ⟨rfl, hb2⟩)))
      go_ret
      exact ⟨rfl, below_add hC hb2 hC.size⟩
    · have HM := Lib.hid HM
      rw [Bool.and_true]
      go_enter Tryd.func50, Tryd.ntmps50
      go_wp2_with (first
        | (go_at_call 59; ((with_reducible refine HF.out.mono ?_); rintro e w1 ⟨rfl, hb1⟩; have hA1 := (hA.below hb1).below ((Below.refl _ _).alloc (Nat.le_refl _) (.cells (kca ⟨k1, k2, k3, k4, k5, k6⟩) 67)); have hK1 := KBox.box ⟨k1, k2, k3, k4, k5, k6⟩ w1 67; have hC := (below_add hB hb1 hB.size).alloc (below_add hB hb1 hB.size).size (.cells (kca ⟨k1, k2, k3, k4, k5, k6⟩) 67)))
        | (go_at_call 49; ((with_reducible refine (HM.out _).mono ?_); rintro e w2 ⟨rfl, hb2⟩; have hA2 := hA1.below hb2; have hK2 := hK1.below hb2 (by simp))))
      go_ret
      exact ⟨rfl, below_add hC hb2 hC.size⟩
end Go.Proofs.YtiobcifpebehnaaDoor
