
import Derived.Test.YtgckofoaiojocaaY8
namespace Go.Proofs.Ytgckofoaiojocaa
open Go.RowKit
set_option linter.unusedVariables false

theorem rless_any (k n f : Int) (s : ByteArray) (k' n' f' : Int) (s' : ByteArray) (w : World) (h0 : 0 ≤ f) (h1 : f < 18446744073709551616) (g0 : 0 ≤ f') (g1 : f' < 18446744073709551616) (hs : s.size ≤ 1000000) (hs' : s'.size ≤ 1000000) :
    Calls Try.prog 20 #[val k n f s, val k' n' f' s'] w fun e w' => e = .returned (.bool (vless k n f s k' n' f' s')) ∧ Below w.heap.size w w' := by
  have hB := below_two w (.cells (vcells k n f s) 24) (.cells (vcells k' n' f' s') 24)
  obtain ⟨hA1, hA2⟩ := at_two k n f s k' n' f' s' w 24
  have HM := fun w => rvmay_any k n f s w h0 h1 hs
  have HM2 := fun w => rvmay_any k' n' f' s' w g0 g1 hs'
  have HR1 := Lib.hid (fun w => rrank_any f w h0 h1)
  have HR2 := Lib.hid (fun w => rrank_any f' w g0 g1)
  cases hm : vmay k n f s
  · rw [vl_f hm]
    rw [hm] at HM
    have HM := Lib.hid HM
    clear hm h0 h1 g0 g1 HM2 HR1 HR2
    go_enter Try.func20, Try.ntmps20
    go_wp2_with (go_at_call 9; ((with_reducible refine (HM.out _).mono ?_); rintro e w' ⟨rfl, hb⟩))
    go_ret
    exact ⟨rfl, hB.trans (hb.mono (by simp; omega))⟩
  cases hm2 : vmay k' n' f' s'
  · rw [vl_tf hm hm2]
    rw [hm] at HM
    rw [hm2] at HM2
    have HM := Lib.hid HM
    have HM2 := Lib.hid HM2
    clear hm hm2 h0 h1 g0 g1 HR1 HR2
    go_enter Try.func20, Try.ntmps20
    go_wp2_with (first
      | (go_at_call 9; ((with_reducible refine (HM.out _).mono ?_); rintro e w1 ⟨rfl, hb⟩; have hA3 := hA1.below hb; have hA4 := hA2.below hb))
      | (go_at_call 9; ((with_reducible refine (HM2.out _).mono ?_); rintro e w2 ⟨rfl, hb2⟩)))
    go_ret
    exact ⟨rfl, (hB.trans (hb.mono (by simp; omega))).trans (hb2.mono (by have := hb.size; simp at this; omega))⟩
  have hv := vl_tt hm hm2
  rw [hm] at HM
  rw [hm2] at HM2
  have HM := Lib.hid HM
  have HM2 := Lib.hid HM2
  by_cases hk : k = k'
  · subst hk
    by_cases k3 : k = 3
    · subst k3
      rw [hv, ← kl_3]
      rw [← rank_dec n f n' f' s s' h0 h1 g0 g1 hm hm2]
      clear hm hm2 h0 h1 g0 g1 hv
      go_enter Try.func20, Try.ntmps20
      go_wp2_with (first
        | (go_at_call 9; ((with_reducible refine (HM.out _).mono ?_); rintro e w1 ⟨rfl, hb⟩; have hA3 := hA1.below hb; have hA4 := hA2.below hb))
        | (go_at_call 9; ((with_reducible refine (HM2.out _).mono ?_); rintro e w2 ⟨rfl, hb2⟩; have hA5 := hA3.below hb2; have hA6 := hA4.below hb2)))
      have hE := (hB.trans (hb.mono (by simp; omega))).trans (hb2.mono (by have := hb.size; simp at this; omega))
      clear hb hb2 hA1 hA2 hA3 hA4 hB
      go_quiet ((first
        | (go_at_call 30; ((with_reducible refine (HR1.out _).mono ?_); rintro e w3 ⟨rfl, rfl⟩; exact ⟨rfl, _, rfl⟩))
        | (go_at_call 30; ((with_reducible refine (HR2.out _).mono ?_); rintro e w3 ⟨rfl, rfl⟩; exact ⟨rfl, _, rfl⟩))))
      go_wp2
      go_ret
      exact ⟨rfl, blw_drewN hE _⟩
    · by_cases k4 : k = 4
      · subst k4
        rw [hv, ← kl_4]
        clear hm hm2 h0 h1 g0 g1 hv HR1 HR2
        go_enter Try.func20, Try.ntmps20
        go_wp2_with (first
          | (go_at_call 9; ((with_reducible refine (HM.out _).mono ?_); rintro e w1 ⟨rfl, hb⟩; have hA3 := hA1.below hb; have hA4 := hA2.below hb))
          | (go_at_call 9; ((with_reducible refine (HM2.out _).mono ?_); rintro e w2 ⟨rfl, hb2⟩; have hA5 := hA3.below hb2; have hA6 := hA4.below hb2)))
        go_ret
        exact ⟨rfl, (hB.trans (hb.mono (by simp; omega))).trans (hb2.mono (by have := hb.size; simp at this; omega))⟩
      · rw [hv, ← kl_n k3 k4]
        have q3 : (k == 3) = false := by simpa using k3
        have q4 : (k == 4) = false := by simpa using k4
        clear hm hm2 h0 h1 g0 g1 hv HR1 HR2
        go_enter Try.func20, Try.ntmps20
        go_wp2_with (first
          | (go_at_call 9; ((with_reducible refine (HM.out _).mono ?_); rintro e w1 ⟨rfl, hb⟩; have hA3 := hA1.below hb; have hA4 := hA2.below hb))
          | (go_at_call 9; ((with_reducible refine (HM2.out _).mono ?_); rintro e w2 ⟨rfl, hb2⟩; have hA5 := hA3.below hb2; have hA6 := hA4.below hb2)))
        go_ret
        exact ⟨rfl, (hB.trans (hb.mono (by simp; omega))).trans (hb2.mono (by have := hb.size; simp at this; omega))⟩
  · rw [hv, ← kl_ne hk]
    have qk : (k == k') = false := by simpa using hk
    have qk2 : (k != k') = true := by simpa using hk
    clear hm hm2 h0 h1 g0 g1 hv HR1 HR2
    go_enter Try.func20, Try.ntmps20
    go_wp2_with (first
      | (go_at_call 9; ((with_reducible refine (HM.out _).mono ?_); rintro e w1 ⟨rfl, hb⟩; have hA3 := hA1.below hb; have hA4 := hA2.below hb))
      | (go_at_call 9; ((with_reducible refine (HM2.out _).mono ?_); rintro e w2 ⟨rfl, hb2⟩; have hA5 := hA3.below hb2; have hA6 := hA4.below hb2)))
    go_ret
    exact ⟨rfl, (hB.trans (hb.mono (by simp; omega))).trans (hb2.mono (by have := hb.size; simp at this; omega))⟩
end Go.Proofs.Ytgckofoaiojocaa
