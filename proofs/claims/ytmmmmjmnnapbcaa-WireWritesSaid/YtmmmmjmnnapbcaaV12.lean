import Derived.Test.YtmmmmjmnnapbcaaV11
import Derived.Deep.RegionHeld
namespace Go.Proofs.Ytmmmmjmnnapbcaa
open Go.RowKit
set_option linter.unusedVariables false

theorem forms_apart {n m : Nat} (hnm : n ≠ m) : strOfNums ((form m).take (form n).length) ≠ strOfNums (form n) := by
  intro h
  have e := str_eq (fun b hb => form_bytes m b (List.mem_of_mem_take hb)) (form_bytes n) h
  exact hnm (form_apart (t := (form m).drop (form n).length) (by have h2 := List.take_append_drop (form n).length (form m); rw [e] at h2; exact h2))

set_option maxHeartbeats 4000000 in
set_option maxRecDepth 100000 in
theorem only_walk (v : Value) (bs : List Int) (n m : Nat) (w : World) (hv : Ints .u8 w v bs) (hbb : ∀ b ∈ bs, 0 ≤ b ∧ b < 256) (hn : Fits n) (hm : Fits m) :
    Calls Try.prog 6 #[v, .int .u64 n, .int .u64 m] w fun e w' => e = .returned (.bool true) ∧ Below w.heap.size w w' := by
  have HV := Lib.hid hv
  have l1 := hv.len
  obtain ⟨a, cap, rfl⟩ := hv.shape
  clear hv
  by_cases hx : 2000 < bs.length
  · clear HV
    go_enter Try.func6, Try.ntmps6
    go_wp2_with (go_at_call 9; refine (known_any _).mono ?_; rintro e w' ⟨rfl, hb⟩)
    go_ret
    exact ⟨rfl, hb⟩
  have U := uint_any _ bs 0 w HV.out hbb (by omega)
  unfold UintIs at U
  have HN := Lib.hid (fun w => formed_any n w hn)
  have HM := Lib.hid (fun w => formed_any m w hm)
  have HCASE : Hid (((n : Int) != m) = false ∨ (((n : Int) != m) = true ∧ decide ((form n).length ≤ (form m).length) = false) ∨
      (((n : Int) != m) = true ∧ decide ((form n).length ≤ (form m).length) = true ∧ (form n).length ≤ (form m).length ∧ strOfNums ((form m).take (form n).length) ≠ strOfNums (form n))) := by
    by_cases h : n = m
    · exact .inl (by rw [bne_eq_false_iff_eq, h])
    · have h' : ((n : Int) != m) = true := by rw [bne_iff_ne]; omega
      by_cases h2 : (form n).length ≤ (form m).length
      · exact .inr (.inr ⟨h', by rw [decide_eq_true_iff]; exact h2, h2, forms_apart h⟩)
      · exact .inr (.inl ⟨h', by rw [decide_eq_false_iff_not]; exact h2⟩)
  cases hd : dec64 bs with
  | none =>
    have hu := u_none (bs := bs) (p := 0) (Nat.zero_le _) (by simpa using hd)
    rw [show ((0 : Nat) : Int) = 0 from rfl] at hu
    rw [hu.1, hu.2.1, hu.2.2] at U
    clear hu hd hbb hn hm
    go_enter Try.func6, Try.ntmps6
    go_wp2_with (go_at_call 16; refine U.mono ?_; rintro e w' ⟨rfl, rfl⟩)
    go_wp2_with (go_at_call 10; refine (HN.out _).mono ?_)
    rintro e w2 ⟨a2, c2, rfl, i2, b12⟩
    have b2 : Below w.heap.size w w2 := b12
    go_wp2_with (go_at_call 10; refine (HM.out _).mono ?_)
    rintro e w3 ⟨a3, c3, rfl, i3, b23⟩
    have b3 := b2.trans (b23.mono b2.size)
    rcases HCASE.out with q1 | ⟨q1, q2⟩ | ⟨q1, q2, HLE, q3⟩
    · clear i2 i3 b23 b2 b12
      go_wp2
      go_quiet (fail)
      go_wp2_with (go_at_call 9; refine (known_any _).mono ?_; rintro e w' ⟨rfl, hb⟩)
      go_ret
      exact ⟨rfl, (blw_drewN b3 nq).trans (hb.mono b3.size)⟩
    · clear i2 i3 b23 b2 b12
      go_wp2
      go_quiet (fail)
      go_wp2_with (go_at_call 9; refine (known_any _).mono ?_; rintro e w' ⟨rfl, hb⟩)
      go_ret
      exact ⟨rfl, (blw_drewN b3 nq).trans (hb.mono b3.size)⟩
    · obtain ⟨b9, off9, rfl, -, hcap9, hcm9, hc9⟩ := i3.opened (form_pos m)
      have hlc9 : ((form n).length : Int) ≤ c3 := by omega
      have hc1 := fun k => conv_str (P := Try.prog) 22 9 5 Try.underlying22 Try.underlying5 Try.underlying9 _ _ _ ((i2.below b23).below (blw_drewN (Below.refl _ _) k))
      have hc2 := fun k => conv_str (P := Try.prog) 22 9 5 Try.underlying22 Try.underlying5 Try.underlying9 _ _ _ ((Ints.head (j := (form n).length) HLE hcap9 hcm9 hc9).below (blw_drewN (Below.refl _ _) k))
      have q4 := str_ne q3
      clear q3 hc9 i2 i3 b23 b2 b12
      generalize strOfNums ((form m).take (form n).length) = sm at *
      generalize strOfNums (form n) = sn at *
      go_wp2
      go_quiet (fail)
      go_wp2_with (go_at_call 9; refine (known_any _).mono ?_; rintro e w' ⟨rfl, hb⟩)
      go_ret
      exact ⟨rfl, (blw_drewN b3 nq).trans (hb.mono b3.size)⟩
  | some ns =>
    obtain ⟨N, X⟩ := ns
    have hu := u_some (bs := bs) (p := 0) (n := N) (s := X) (Nat.zero_le _) (by simpa using hd)
    obtain ⟨h1, h2, h3, h4, h5, h6⟩ := dec64_take bs hbb N X hd
    rw [show ((0 : Nat) : Int) = 0 from rfl, Nat.zero_add] at hu
    rw [hu.1, hu.2.1, hu.2.2] at U
    obtain ⟨b, off, rfl, -, hcap, hcm, hc⟩ := HV.out.opened (by omega)
    have hI := Ints.head (j := X) h4 hcap hcm hc
    rw [← h1] at hI
    have HI := Lib.hid hI
    have d1 : decide ((X : Int) < 1) = false := by rw [decide_eq_false_iff_not]; omega
    have d2 : decide ((10 : Int) < X) = false := by rw [decide_eq_false_iff_not]; omega
    have d3 : decide (bs.length < X) = false := by rw [decide_eq_false_iff_not]; omega
    have d4 : (X : Int) ≤ cap := by omega
    have HF := Lib.hid (fun w => formed_any N w h5)
    have hc1 := fun n => conv_str (P := Try.prog) 22 9 5 Try.underlying22 Try.underlying5 Try.underlying9 _ _ _ (hI.below (blw_drewN (Below.refl _ _) n))
    generalize hsf : strOfNums (form N) = sf at hc1
    have HSF := Lib.hid hsf
    clear h1 h2 h5 hd hu hI hbb hc hsf hn hm
    have S0 : (convert 22 9 (.slice (some ⟨b, off, none⟩) X cap)).run Try.prog w.drew = .ok (.string sf) w.drew ∧ Below w.heap.size w w.drew := ⟨hc1 1, (Below.refl _ _).drew⟩
    have HK : Hid (∀ w1, Below w.heap.size w w1 → (convert 22 9 (.slice (some ⟨b, off, none⟩) X cap)).run Try.prog w1 = .ok (.string sf) w1 ∧ Below w.heap.size w w1) := fun w1 hb => ⟨by
      have := conv_str (P := Try.prog) 22 9 5 Try.underlying22 Try.underlying5 Try.underlying9 _ _ _ (HI.out.below hb)
      rwa [HSF.out] at this, hb⟩
    have HC : Hid (∀ v w1, Ints .u8 w1 v (form N) → (convert 22 9 v).run Try.prog w1 = .ok (.string sf) w1) := fun v w1 hi => by
      have := conv_str (P := Try.prog) 22 9 5 Try.underlying22 Try.underlying5 Try.underlying9 _ _ _ hi
      rwa [HSF.out] at this
    clear hc1
    go_enter Try.func6, Try.ntmps6
    go_wp2_with (go_at_call 16; refine U.mono ?_; rintro e w' ⟨rfl, rfl⟩)
    go_region_held (fun w' => (convert 22 9 (.slice (some ⟨b, off, none⟩) X cap)).run Try.prog w' = .ok (.string sf) w' ∧ Below w.heap.size w w') (first | assumption | trivial)
      (first | (go_at_call 10; refine (HF.out _).mono ?_; rintro e w1 ⟨a1, c1, rfl, i1, b1⟩; have hcv := HC.out _ _ i1; have hS1 := HK.out w1 (Below.trans (Below.drew (Below.refl _ _)) b1)))
    have b1' : Below w.heap.size w w1 := hS1.2
    clear hcv hS1 S0 HK HC b1 i1 HI HF HSF
    go_wp2_with (go_at_call 10; refine (HN.out _).mono ?_)
    rintro e w2 ⟨a2, c2, rfl, i2, b12⟩
    have b2 : Below w.heap.size w w2 := b1'.trans (b12.mono b1'.size)
    go_wp2_with (go_at_call 10; refine (HM.out _).mono ?_)
    rintro e w3 ⟨a3, c3, rfl, i3, b23⟩
    have b3 := b2.trans (b23.mono b2.size)
    rcases HCASE.out with q1 | ⟨q1, q2⟩ | ⟨q1, q2, HLE, q3⟩
    · clear i2 i3 b23 b2 b12
      go_wp2
      go_quiet (fail)
      go_wp2_with (go_at_call 9; refine (known_any _).mono ?_; rintro e w' ⟨rfl, hb⟩)
      go_ret
      exact ⟨rfl, (blw_drewN b3 nq).trans (hb.mono b3.size)⟩
    · clear i2 i3 b23 b2 b12
      go_wp2
      go_quiet (fail)
      go_wp2_with (go_at_call 9; refine (known_any _).mono ?_; rintro e w' ⟨rfl, hb⟩)
      go_ret
      exact ⟨rfl, (blw_drewN b3 nq).trans (hb.mono b3.size)⟩
    · obtain ⟨b9, off9, rfl, -, hcap9, hcm9, hc9⟩ := i3.opened (form_pos m)
      have hlc9 : ((form n).length : Int) ≤ c3 := by omega
      have hc1 := fun k => conv_str (P := Try.prog) 22 9 5 Try.underlying22 Try.underlying5 Try.underlying9 _ _ _ ((i2.below b23).below (blw_drewN (Below.refl _ _) k))
      have hc2 := fun k => conv_str (P := Try.prog) 22 9 5 Try.underlying22 Try.underlying5 Try.underlying9 _ _ _ ((Ints.head (j := (form n).length) HLE hcap9 hcm9 hc9).below (blw_drewN (Below.refl _ _) k))
      have q4 := str_ne q3
      clear q3 hc9 i2 i3 b23 b2 b12
      generalize strOfNums ((form m).take (form n).length) = sm at *
      generalize strOfNums (form n) = sn at *
      go_wp2
      go_quiet (fail)
      go_wp2_with (go_at_call 9; refine (known_any _).mono ?_; rintro e w' ⟨rfl, hb⟩)
      go_ret
      exact ⟨rfl, (blw_drewN b3 nq).trans (hb.mono b3.size)⟩
end Go.Proofs.Ytmmmmjmnnapbcaa
