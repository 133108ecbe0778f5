
import Derived.Test.YtgckofoaiojocaaY7
import Derived.BigQuiet
namespace Go.Proofs.Ytgckofoaiojocaa
open Go.RowKit
set_option linter.unusedVariables false

/-- Which of two values that may be stands ahead. -/
def kless (k n f : Int) (s : ByteArray) (k' n' f' : Int) (s' : ByteArray) : Bool :=
  if k ≠ k' then decide (k < k') else if k = 3 then decide (rankI f < rankI f') else if k = 4 then Op.bytesLess s.toList s'.toList else decide (n < n')
def vless (k n f : Int) (s : ByteArray) (k' n' f' : Int) (s' : ByteArray) : Bool := vmay k n f s && vmay k' n' f' s' && kless k n f s k' n' f' s'

theorem vmay_okF {n f : Int} {s : ByteArray} (h : vmay 3 n f s = true) (h0 : 0 ≤ f) (h1 : f < 18446744073709551616) : okF f := by
  rw [rvmay3] at h
  simp at h
  exact ⟨h0, h1, h.2⟩
theorem rank_dec (n f n' f' : Int) (s s' : ByteArray) (h0 : 0 ≤ f) (h1 : f < 18446744073709551616) (g0 : 0 ≤ f') (g1 : f' < 18446744073709551616)
    (hm : vmay 3 n f s = true) (hm' : vmay 3 n' f' s' = true) : decide (rrankI f < rrankI f') = decide (rankI f < rankI f') := by
  rw [Bool.eq_iff_iff, decide_eq_true_iff, decide_eq_true_iff]
  exact (rank_same f f' (vmay_okF hm h0 h1) (vmay_okF hm' g0 g1)).symm
theorem kl_ne {k n f : Int} {s : ByteArray} {k' n' f' : Int} {s' : ByteArray} (h : k ≠ k') : decide (k < k') = kless k n f s k' n' f' s' := by unfold kless; rw [if_pos h]
theorem kl_3 {n f : Int} {s : ByteArray} {n' f' : Int} {s' : ByteArray} : decide (rankI f < rankI f') = kless 3 n f s 3 n' f' s' := by unfold kless; simp
theorem kl_4 {n f : Int} {s : ByteArray} {n' f' : Int} {s' : ByteArray} : Op.bytesLess s.toList s'.toList = kless 4 n f s 4 n' f' s' := by unfold kless; simp
theorem kl_n {k n f : Int} {s : ByteArray} {n' f' : Int} {s' : ByteArray} (h3 : k ≠ 3) (h4 : k ≠ 4) : decide (n < n') = kless k n f s k n' f' s' := by unfold kless; simp [h3, h4]
theorem vl_tt {k n f : Int} {s : ByteArray} {k' n' f' : Int} {s' : ByteArray} (h : vmay k n f s = true) (h' : vmay k' n' f' s' = true) : vless k n f s k' n' f' s' = kless k n f s k' n' f' s' := by unfold vless; rw [h, h']; rfl
theorem vl_f {k n f : Int} {s : ByteArray} {k' n' f' : Int} {s' : ByteArray} (h : vmay k n f s = false) : vless k n f s k' n' f' s' = false := by unfold vless; rw [h]; rfl
theorem vl_tf {k n f : Int} {s : ByteArray} {k' n' f' : Int} {s' : ByteArray} (h : vmay k n f s = true) (h' : vmay k' n' f' s' = false) : vless k n f s k' n' f' s' = false := by unfold vless; rw [h, h']; rfl
theorem at_two (k n f : Int) (s : ByteArray) (k' n' f' : Int) (s' : ByteArray) (w : World) (t : TypeId) :
    At w.heap.size k n f s ((w.alloc (.cells (vcells k n f s) t)).alloc (.cells (vcells k' n' f' s') t)) ∧ At (w.heap.size + 1) k' n' f' s' ((w.alloc (.cells (vcells k n f s) t)).alloc (.cells (vcells k' n' f' s') t)) := by
  refine ⟨(At.box k n f s w t).below ((Below.refl _ _).alloc (Nat.le_refl _) _), ?_⟩
  have h := At.box k' n' f' s' (w.alloc (.cells (vcells k n f s) t)) t
  simpa using h
theorem below_two (w : World) (o1 o2 : Obj) : Below w.heap.size w ((w.alloc o1).alloc o2) := ((Below.refl _ _).alloc (Nat.le_refl _) _).alloc (by simp) _

theorem less_any (k n f : Int) (s : ByteArray) (k' n' f' : Int) (s' : ByteArray) (w : World) (h0 : 0 ≤ f) (h1 : f < 18446744073709551616) (g0 : 0 ≤ f') (g1 : f' < 18446744073709551616) :
    Calls Try.prog 19 #[val k n f s, val k' n' f' s'] w fun e w' => e = .returned (.bool (vless k n f s k' n' f' s')) ∧ Below w.heap.size w w' := by
  have hB := below_two w (.cells (vcells k n f s) 24) (.cells (vcells k' n' f' s') 24)
  obtain ⟨hA1, hA2⟩ := at_two k n f s k' n' f' s' w 24
  have HM := fun w => vmay_any k n f s w h0 h1
  have HM2 := fun w => vmay_any k' n' f' s' w g0 g1
  have HR1 := Lib.hid (fun w => rank_any f w h0 h1)
  have HR2 := Lib.hid (fun w => rank_any f' w g0 g1)
  cases hm : vmay k n f s
  · rw [vl_f hm]
    rw [hm] at HM
    have HM := Lib.hid HM
    clear hm h0 h1 g0 g1 HM2 HR1 HR2
    go_enter Try.func19, Try.ntmps19
    go_wp2_with (go_at_call 13; ((with_reducible refine (HM.out _).mono ?_); rintro e w' ⟨rfl, hb⟩))
    go_ret
    exact ⟨rfl, hB.trans (hb.mono (by simp; omega))⟩
  cases hm2 : vmay k' n' f' s'
  · rw [vl_tf hm hm2]
    rw [hm] at HM
    rw [hm2] at HM2
    have HM := Lib.hid HM
    have HM2 := Lib.hid HM2
    clear hm hm2 h0 h1 g0 g1 HR1 HR2
    go_enter Try.func19, Try.ntmps19
    go_wp2_with (first
      | (go_at_call 13; ((with_reducible refine (HM.out _).mono ?_); rintro e w1 ⟨rfl, hb⟩; have hA3 := hA1.below hb; have hA4 := hA2.below hb))
      | (go_at_call 13; ((with_reducible refine (HM2.out _).mono ?_); rintro e w2 ⟨rfl, hb2⟩)))
    go_ret
    exact ⟨rfl, (hB.trans (hb.mono (by simp; omega))).trans (hb2.mono (by have := hb.size; simp at this; omega))⟩
  have hv := vl_tt hm hm2
  rw [hm] at HM
  rw [hm2] at HM2
  have HM := Lib.hid HM
  have HM2 := Lib.hid HM2
  by_cases hk : k = k'
  · subst hk
    by_cases k3 : k = 3
    · subst k3
      rw [hv, ← kl_3]
      skip
      clear hm hm2 h0 h1 g0 g1 hv
      go_enter Try.func19, Try.ntmps19
      go_wp2_with (first
        | (go_at_call 13; ((with_reducible refine (HM.out _).mono ?_); rintro e w1 ⟨rfl, hb⟩; have hA3 := hA1.below hb; have hA4 := hA2.below hb))
        | (go_at_call 13; ((with_reducible refine (HM2.out _).mono ?_); rintro e w2 ⟨rfl, hb2⟩; have hA5 := hA3.below hb2; have hA6 := hA4.below hb2)))
      have hE := (hB.trans (hb.mono (by simp; omega))).trans (hb2.mono (by have := hb.size; simp at this; omega))
      clear hb hb2 hA1 hA2 hA3 hA4 hB
      go_quiet ((first
        | (go_at_call 29; ((with_reducible refine (HR1.out _).mono ?_); rintro e w3 ⟨rfl, rfl⟩; exact ⟨rfl, _, rfl⟩))
        | (go_at_call 29; ((with_reducible refine (HR2.out _).mono ?_); rintro e w3 ⟨rfl, rfl⟩; exact ⟨rfl, _, rfl⟩))))
      go_wp2
      go_ret
      exact ⟨rfl, blw_drewN hE _⟩
    · by_cases k4 : k = 4
      · subst k4
        rw [hv, ← kl_4]
        clear hm hm2 h0 h1 g0 g1 hv HR1 HR2
        go_enter Try.func19, Try.ntmps19
        go_wp2_with (first
          | (go_at_call 13; ((with_reducible refine (HM.out _).mono ?_); rintro e w1 ⟨rfl, hb⟩; have hA3 := hA1.below hb; have hA4 := hA2.below hb))
          | (go_at_call 13; ((with_reducible refine (HM2.out _).mono ?_); rintro e w2 ⟨rfl, hb2⟩; have hA5 := hA3.below hb2; have hA6 := hA4.below hb2)))
        go_ret
        exact ⟨rfl, (hB.trans (hb.mono (by simp; omega))).trans (hb2.mono (by have := hb.size; simp at this; omega))⟩
      · rw [hv, ← kl_n k3 k4]
        have q3 : (k == 3) = false := by simpa using k3
        have q4 : (k == 4) = false := by simpa using k4
        clear hm hm2 h0 h1 g0 g1 hv HR1 HR2
        go_enter Try.func19, Try.ntmps19
        go_wp2_with (first
          | (go_at_call 13; ((with_reducible refine (HM.out _).mono ?_); rintro e w1 ⟨rfl, hb⟩; have hA3 := hA1.below hb; have hA4 := hA2.below hb))
          | (go_at_call 13; ((with_reducible refine (HM2.out _).mono ?_); rintro e w2 ⟨rfl, hb2⟩; have hA5 := hA3.below hb2; have hA6 := hA4.below hb2)))
        go_ret
        exact ⟨rfl, (hB.trans (hb.mono (by simp; omega))).trans (hb2.mono (by have := hb.size; simp at this; omega))⟩
  · rw [hv, ← kl_ne hk]
    have qk : (k == k') = false := by simpa using hk
    have qk2 : (k != k') = true := by simpa using hk
    clear hm hm2 h0 h1 g0 g1 hv HR1 HR2
    go_enter Try.func19, Try.ntmps19
    go_wp2_with (first
      | (go_at_call 13; ((with_reducible refine (HM.out _).mono ?_); rintro e w1 ⟨rfl, hb⟩; have hA3 := hA1.below hb; have hA4 := hA2.below hb))
      | (go_at_call 13; ((with_reducible refine (HM2.out _).mono ?_); rintro e w2 ⟨rfl, hb2⟩; have hA5 := hA3.below hb2; have hA6 := hA4.below hb2)))
    go_ret
    exact ⟨rfl, (hB.trans (hb.mono (by simp; omega))).trans (hb2.mono (by have := hb.size; simp at this; omega))⟩
end Go.Proofs.Ytgckofoaiojocaa
