
import Derived.Test.YtgckofoaiojocaaYH
namespace Go.Proofs.Ytgckofoaiojocaa
open Go.RowKit
set_option linter.unusedVariables false

set_option maxHeartbeats 1000000 in
theorem may_walk_fff (k n f : Int) (s : ByteArray) (a1 a2 : Int) (s3 : ByteArray) (w : World) (h0 : 0 ≤ f) (h1 : f < 18446744073709551616) (g0 : 0 ≤ a1) (g1 : a1 < 18446744073709551616)
    (l1 : s.size ≤ 1000) (l2 : s3.size ≤ 1000) (ht : textB s3 = false) (hn : numOk k n f s = false) :
    Calls Try.prog 3 #[val k n f s, .int .u64 a1, .int .i64 a2, .string s3, .bool false] w fun e w' => e = .returned (.bool true) ∧ Below w.heap.size w w' := by
  have HT := fun w => text_any s3 w
  have HR := fun w => rvmay_any 4 0 0 s3 w (by decide) (by decide) (by omega)
  have HN := fun w => number_any k n f s w h0 h1
  have HRN := fun w => rnumber_any k n f s w h0 h1 (by omega)
  have HM := fun w => vmay_any k n f s w h0 h1
  have HRM := fun w => rvmay_any k n f s w h0 h1 (by omega)
  have HK := Lib.hid known_any
  have HFL := Lib.hid (fun w => (flag_any false w).mono fun e w' h => (⟨h.1, h.2⟩ : e = .returned (val 1 0 0 ⟨#[]⟩) ∧ Below w.heap.size w w'))
  have HRF := Lib.hid (fun w => rfloat_any a1 w g0 g1)
  have HF := Lib.hid (fun w => floatF a1 w g0 g1)
  have hx := of_bits a1
  have hy := fun b => bits_of b
  have hq := fun k n f k' n' f' s s' w => val_neq k n f k' n' f' s s' w
  have he := fun k n f k' n' f' s s' w => val_eql k n f k' n' f' s s' w
  have hz := zero_ne
  rw [vmay_text, ht] at HR
  rw [textV_f ht, textE_f ht] at HT
  have hX := numF_no hn
  simp only [hn, hX] at HN HRN
  
  generalize vmay k n f s = m at HM HRM
  clear h0 h1 g0 g1 ht hn hX
  have HN := Lib.hid HN
  have HRN := Lib.hid HRN
  have HT := Lib.hid HT
  have HR := Lib.hid HR
  have HM := Lib.hid HM
  have HRM := Lib.hid HRM
  have A0 := (((At.box k n f s w 24).alloc (.cells (vcells 1 0 0 ⟨#[]⟩) 24)).alloc (.cells (vcells 4 0 0 s3) 24))
  have A1 := ((At.boxAt (B := w.heap.size + 1) 1 0 0 ⟨#[]⟩ (w := w.alloc (.cells (vcells k n f s) 24)) 24 (by simp)).alloc (.cells (vcells 4 0 0 s3) 24))
  have A2 := At.boxAt (B := w.heap.size + 2) 4 0 0 s3 (w := (w.alloc (.cells (vcells k n f s) 24)).alloc (.cells (vcells 1 0 0 ⟨#[]⟩) 24)) 24 (by simp)
  have E0 := (below_two w (.cells (vcells k n f s) 24) (.cells (vcells 1 0 0 ⟨#[]⟩) 24)).alloc (by simp; omega) (.cells (vcells 4 0 0 s3) 24)
  go_enter Try.func3, Try.ntmps3
  go_wp2_with fail
  refine (HT.out _).mono ?_
  rintro e w1 ⟨rfl, hb1⟩
  have E1 := below_add E0 hb1 E0.size
  have z1 : w.heap.size + 3 ≤ w1.heap.size := by have := hb1.size; simp at this; omega
  have A0 := ((A0.below hb1).alloc (.cells (vcells 0 0 0 ⟨#[]⟩) 24))
  have A1 := ((A1.below hb1).alloc (.cells (vcells 0 0 0 ⟨#[]⟩) 24))
  have A2 := ((A2.below hb1).alloc (.cells (vcells 0 0 0 ⟨#[]⟩) 24))
  have A3 := At.box 0 0 0 ⟨#[]⟩ w1 24
  have E1 := E1.alloc (by omega) (.cells (vcells 0 0 0 ⟨#[]⟩) 24)
  clear hb1 E0
  go_wp2_with fail
  refine (HR.out _).mono ?_
  rintro e w2 ⟨rfl, hb2⟩
  have E2 := below_add E1 hb2 E1.size
  have A0 := A0.below hb2
  have A1 := A1.below hb2
  have A2 := A2.below hb2
  have A3 := A3.below hb2
  clear hb2 E1
  go_wp2_with fail
  refine (HN.out _).mono ?_
  rintro e w3 ⟨rfl, hb3⟩
  have E3 := below_add E2 hb3 E2.size
  have A0 := A0.below hb3
  have A1 := A1.below hb3
  clear hb3 E2 A2 A3
  go_wp2_with fail
  refine (HRN.out _).mono ?_
  rintro e w4 ⟨rfl, hb4⟩
  have E4 := below_add E3 hb4 E3.size
  have A0 := A0.below hb4
  have A1 := A1.below hb4
  clear hb4 E3
  go_wp2_with fail
  have S0 := And.intro A0.drew A1.drew
  have F0 := E4.drew
  clear A0 A1 E4
  go_region_held3 (fun w' => At w.heap.size k n f s w' ∧ At (w.heap.size + 1) 1 0 0 ⟨#[]⟩ w') (first | assumption | trivial)
    (first
      | (go_at_call 13; ((with_reducible refine (HM.out _).mono ?_); rintro e w5 ⟨rfl, hb5⟩; have S5 := And.intro (S0.1.below hb5) (S0.2.below hb5); have F5 := below_add F0 hb5 F0.size; clear hb5))
      | (go_at_call 9; ((with_reducible refine (HRM.out _).mono ?_); rintro e w6 ⟨rfl, hb6⟩; have S6 := And.intro (S5.1.below hb6) (S5.2.below hb6); have F6 := below_add F5 hb6 F5.size; clear hb6))
      | (go_at_call 14; ((with_reducible refine (HFL.out _).mono ?_); rintro e w7 ⟨rfl, hb7⟩; have S7 := And.intro (S6.1.below hb7) (S6.2.below hb7); have F7 := below_add F6 hb7 F6.size; clear hb7))
      | (go_at_call 15; ((with_reducible refine (int_any _ _).mono ?_); rintro e w8 ⟨rfl, hb8⟩; have S8 := And.intro (S7.1.below hb8) (S7.2.below hb8); have F8 := below_add F7 hb8 F7.size; clear hb8))
      | (go_at_call 16; ((with_reducible refine (HF.out _).mono ?_); rintro e w9 ⟨rfl, hb9⟩; have S9 := And.intro (S8.1.below hb9) (S8.2.below hb9); have F9 := below_add F8 hb9 F8.size; clear hb9))
      | (go_at_call 18; ((with_reducible refine (HRF.out _).mono ?_); rintro e w10 ⟨rfl, hb10⟩; have S10 := And.intro (S9.1.below hb10) (S9.2.below hb10); have F10 := below_add F9 hb10 F9.size; clear hb10))
      | (go_at_call 7; ((with_reducible refine (HK.out _).mono ?_); rintro e w11 ⟨rfl, hb11⟩; have S11 := And.intro (S10.1.below hb11) (S10.2.below hb11); have F11 := below_add F10 hb11 F10.size; clear hb11)))
  go_wp2
  go_ret
  exact ⟨rfl, F11⟩

set_option maxHeartbeats 1000000 in
theorem may_walk_fft (k n f : Int) (s : ByteArray) (a1 a2 : Int) (s3 : ByteArray) (w : World) (h0 : 0 ≤ f) (h1 : f < 18446744073709551616) (g0 : 0 ≤ a1) (g1 : a1 < 18446744073709551616)
    (l1 : s.size ≤ 1000) (l2 : s3.size ≤ 1000) (ht : textB s3 = false) (hn : numOk k n f s = true) :
    Calls Try.prog 3 #[val k n f s, .int .u64 a1, .int .i64 a2, .string s3, .bool false] w fun e w' => e = .returned (.bool true) ∧ Below w.heap.size w w' := by
  have HT := fun w => text_any s3 w
  have HR := fun w => rvmay_any 4 0 0 s3 w (by decide) (by decide) (by omega)
  have HN := fun w => number_any k n f s w h0 h1
  have HRN := fun w => rnumber_any k n f s w h0 h1 (by omega)
  have HM := fun w => vmay_any k n f s w h0 h1
  have HRM := fun w => rvmay_any k n f s w h0 h1 (by omega)
  have HK := Lib.hid known_any
  have HFL := Lib.hid (fun w => (flag_any false w).mono fun e w' h => (⟨h.1, h.2⟩ : e = .returned (val 1 0 0 ⟨#[]⟩) ∧ Below w.heap.size w w'))
  have HRF := Lib.hid (fun w => rfloat_any a1 w g0 g1)
  have HF := Lib.hid (fun w => floatF a1 w g0 g1)
  have hx := of_bits a1
  have hy := fun b => bits_of b
  have hq := fun k n f k' n' f' s s' w => val_neq k n f k' n' f' s s' w
  have he := fun k n f k' n' f' s s' w => val_eql k n f k' n' f' s s' w
  have hz := zero_ne
  rw [vmay_text, ht] at HR
  rw [textV_f ht, textE_f ht] at HT
  
  simp only [hn] at HN HRN
  generalize numF k n f s = X at HN HRN
  generalize vmay k n f s = m at HM HRM
  clear h0 h1 g0 g1 ht hn
  have HN := Lib.hid HN
  have HRN := Lib.hid HRN
  have HT := Lib.hid HT
  have HR := Lib.hid HR
  have HM := Lib.hid HM
  have HRM := Lib.hid HRM
  have A0 := (((At.box k n f s w 24).alloc (.cells (vcells 1 0 0 ⟨#[]⟩) 24)).alloc (.cells (vcells 4 0 0 s3) 24))
  have A1 := ((At.boxAt (B := w.heap.size + 1) 1 0 0 ⟨#[]⟩ (w := w.alloc (.cells (vcells k n f s) 24)) 24 (by simp)).alloc (.cells (vcells 4 0 0 s3) 24))
  have A2 := At.boxAt (B := w.heap.size + 2) 4 0 0 s3 (w := (w.alloc (.cells (vcells k n f s) 24)).alloc (.cells (vcells 1 0 0 ⟨#[]⟩) 24)) 24 (by simp)
  have E0 := (below_two w (.cells (vcells k n f s) 24) (.cells (vcells 1 0 0 ⟨#[]⟩) 24)).alloc (by simp; omega) (.cells (vcells 4 0 0 s3) 24)
  go_enter Try.func3, Try.ntmps3
  go_wp2_with fail
  refine (HT.out _).mono ?_
  rintro e w1 ⟨rfl, hb1⟩
  have E1 := below_add E0 hb1 E0.size
  have z1 : w.heap.size + 3 ≤ w1.heap.size := by have := hb1.size; simp at this; omega
  have A0 := ((A0.below hb1).alloc (.cells (vcells 0 0 0 ⟨#[]⟩) 24))
  have A1 := ((A1.below hb1).alloc (.cells (vcells 0 0 0 ⟨#[]⟩) 24))
  have A2 := ((A2.below hb1).alloc (.cells (vcells 0 0 0 ⟨#[]⟩) 24))
  have A3 := At.box 0 0 0 ⟨#[]⟩ w1 24
  have E1 := E1.alloc (by omega) (.cells (vcells 0 0 0 ⟨#[]⟩) 24)
  clear hb1 E0
  go_wp2_with fail
  refine (HR.out _).mono ?_
  rintro e w2 ⟨rfl, hb2⟩
  have E2 := below_add E1 hb2 E1.size
  have A0 := A0.below hb2
  have A1 := A1.below hb2
  have A2 := A2.below hb2
  have A3 := A3.below hb2
  clear hb2 E1
  go_wp2_with fail
  refine (HN.out _).mono ?_
  rintro e w3 ⟨rfl, hb3⟩
  have E3 := below_add E2 hb3 E2.size
  have A0 := A0.below hb3
  have A1 := A1.below hb3
  clear hb3 E2 A2 A3
  go_wp2_with fail
  refine (HRN.out _).mono ?_
  rintro e w4 ⟨rfl, hb4⟩
  have E4 := below_add E3 hb4 E3.size
  have A0 := A0.below hb4
  have A1 := A1.below hb4
  clear hb4 E3
  go_wp2_with fail
  have S0 := And.intro A0.drew A1.drew
  have F0 := E4.drew
  clear A0 A1 E4
  go_region_held3 (fun w' => At w.heap.size k n f s w' ∧ At (w.heap.size + 1) 1 0 0 ⟨#[]⟩ w') (first | assumption | trivial)
    (first
      | (go_at_call 13; ((with_reducible refine (HM.out _).mono ?_); rintro e w5 ⟨rfl, hb5⟩; have S5 := And.intro (S0.1.below hb5) (S0.2.below hb5); have F5 := below_add F0 hb5 F0.size; clear hb5))
      | (go_at_call 9; ((with_reducible refine (HRM.out _).mono ?_); rintro e w6 ⟨rfl, hb6⟩; have S6 := And.intro (S5.1.below hb6) (S5.2.below hb6); have F6 := below_add F5 hb6 F5.size; clear hb6))
      | (go_at_call 14; ((with_reducible refine (HFL.out _).mono ?_); rintro e w7 ⟨rfl, hb7⟩; have S7 := And.intro (S6.1.below hb7) (S6.2.below hb7); have F7 := below_add F6 hb7 F6.size; clear hb7))
      | (go_at_call 15; ((with_reducible refine (int_any _ _).mono ?_); rintro e w8 ⟨rfl, hb8⟩; have S8 := And.intro (S7.1.below hb8) (S7.2.below hb8); have F8 := below_add F7 hb8 F7.size; clear hb8))
      | (go_at_call 16; ((with_reducible refine (HF.out _).mono ?_); rintro e w9 ⟨rfl, hb9⟩; have S9 := And.intro (S8.1.below hb9) (S8.2.below hb9); have F9 := below_add F8 hb9 F8.size; clear hb9))
      | (go_at_call 18; ((with_reducible refine (HRF.out _).mono ?_); rintro e w10 ⟨rfl, hb10⟩; have S10 := And.intro (S9.1.below hb10) (S9.2.below hb10); have F10 := below_add F9 hb10 F9.size; clear hb10))
      | (go_at_call 7; ((with_reducible refine (HK.out _).mono ?_); rintro e w11 ⟨rfl, hb11⟩; have S11 := And.intro (S10.1.below hb11) (S10.2.below hb11); have F11 := below_add F10 hb11 F10.size; clear hb11)))
  go_wp2
  go_ret
  exact ⟨rfl, F11⟩

set_option maxHeartbeats 1000000 in
theorem may_walk_ftf (k n f : Int) (s : ByteArray) (a1 a2 : Int) (s3 : ByteArray) (w : World) (h0 : 0 ≤ f) (h1 : f < 18446744073709551616) (g0 : 0 ≤ a1) (g1 : a1 < 18446744073709551616)
    (l1 : s.size ≤ 1000) (l2 : s3.size ≤ 1000) (ht : textB s3 = true) (hn : numOk k n f s = false) :
    Calls Try.prog 3 #[val k n f s, .int .u64 a1, .int .i64 a2, .string s3, .bool false] w fun e w' => e = .returned (.bool true) ∧ Below w.heap.size w w' := by
  have HT := fun w => text_any s3 w
  have HR := fun w => rvmay_any 4 0 0 s3 w (by decide) (by decide) (by omega)
  have HN := fun w => number_any k n f s w h0 h1
  have HRN := fun w => rnumber_any k n f s w h0 h1 (by omega)
  have HM := fun w => vmay_any k n f s w h0 h1
  have HRM := fun w => rvmay_any k n f s w h0 h1 (by omega)
  have HK := Lib.hid known_any
  have HFL := Lib.hid (fun w => (flag_any false w).mono fun e w' h => (⟨h.1, h.2⟩ : e = .returned (val 1 0 0 ⟨#[]⟩) ∧ Below w.heap.size w w'))
  have HRF := Lib.hid (fun w => rfloat_any a1 w g0 g1)
  have HF := Lib.hid (fun w => floatF a1 w g0 g1)
  have hx := of_bits a1
  have hy := fun b => bits_of b
  have hq := fun k n f k' n' f' s s' w => val_neq k n f k' n' f' s s' w
  have he := fun k n f k' n' f' s s' w => val_eql k n f k' n' f' s s' w
  have hz := zero_ne
  rw [vmay_text, ht] at HR
  rw [textV_t ht, textE_t ht] at HT
  have hX := numF_no hn
  simp only [hn, hX] at HN HRN
  
  generalize vmay k n f s = m at HM HRM
  clear h0 h1 g0 g1 ht hn hX
  have HN := Lib.hid HN
  have HRN := Lib.hid HRN
  have HT := Lib.hid HT
  have HR := Lib.hid HR
  have HM := Lib.hid HM
  have HRM := Lib.hid HRM
  have A0 := (((At.box k n f s w 24).alloc (.cells (vcells 1 0 0 ⟨#[]⟩) 24)).alloc (.cells (vcells 4 0 0 s3) 24))
  have A1 := ((At.boxAt (B := w.heap.size + 1) 1 0 0 ⟨#[]⟩ (w := w.alloc (.cells (vcells k n f s) 24)) 24 (by simp)).alloc (.cells (vcells 4 0 0 s3) 24))
  have A2 := At.boxAt (B := w.heap.size + 2) 4 0 0 s3 (w := (w.alloc (.cells (vcells k n f s) 24)).alloc (.cells (vcells 1 0 0 ⟨#[]⟩) 24)) 24 (by simp)
  have E0 := (below_two w (.cells (vcells k n f s) 24) (.cells (vcells 1 0 0 ⟨#[]⟩) 24)).alloc (by simp; omega) (.cells (vcells 4 0 0 s3) 24)
  go_enter Try.func3, Try.ntmps3
  go_wp2_with fail
  refine (HT.out _).mono ?_
  rintro e w1 ⟨rfl, hb1⟩
  have E1 := below_add E0 hb1 E0.size
  have z1 : w.heap.size + 3 ≤ w1.heap.size := by have := hb1.size; simp at this; omega
  have A0 := ((A0.below hb1).alloc (.cells (vcells 4 0 0 s3) 24))
  have A1 := ((A1.below hb1).alloc (.cells (vcells 4 0 0 s3) 24))
  have A2 := ((A2.below hb1).alloc (.cells (vcells 4 0 0 s3) 24))
  have A3 := At.box 4 0 0 s3 w1 24
  have E1 := E1.alloc (by omega) (.cells (vcells 4 0 0 s3) 24)
  clear hb1 E0
  go_wp2_with fail
  refine (HR.out _).mono ?_
  rintro e w2 ⟨rfl, hb2⟩
  have E2 := below_add E1 hb2 E1.size
  have A0 := A0.below hb2
  have A1 := A1.below hb2
  have A2 := A2.below hb2
  have A3 := A3.below hb2
  clear hb2 E1
  go_wp2_with fail
  refine (HN.out _).mono ?_
  rintro e w3 ⟨rfl, hb3⟩
  have E3 := below_add E2 hb3 E2.size
  have A0 := A0.below hb3
  have A1 := A1.below hb3
  clear hb3 E2 A2 A3
  go_wp2_with fail
  refine (HRN.out _).mono ?_
  rintro e w4 ⟨rfl, hb4⟩
  have E4 := below_add E3 hb4 E3.size
  have A0 := A0.below hb4
  have A1 := A1.below hb4
  clear hb4 E3
  go_wp2_with fail
  have S0 := And.intro A0.drew A1.drew
  have F0 := E4.drew
  clear A0 A1 E4
  go_region_held3 (fun w' => At w.heap.size k n f s w' ∧ At (w.heap.size + 1) 1 0 0 ⟨#[]⟩ w') (first | assumption | trivial)
    (first
      | (go_at_call 13; ((with_reducible refine (HM.out _).mono ?_); rintro e w5 ⟨rfl, hb5⟩; have S5 := And.intro (S0.1.below hb5) (S0.2.below hb5); have F5 := below_add F0 hb5 F0.size; clear hb5))
      | (go_at_call 9; ((with_reducible refine (HRM.out _).mono ?_); rintro e w6 ⟨rfl, hb6⟩; have S6 := And.intro (S5.1.below hb6) (S5.2.below hb6); have F6 := below_add F5 hb6 F5.size; clear hb6))
      | (go_at_call 14; ((with_reducible refine (HFL.out _).mono ?_); rintro e w7 ⟨rfl, hb7⟩; have S7 := And.intro (S6.1.below hb7) (S6.2.below hb7); have F7 := below_add F6 hb7 F6.size; clear hb7))
      | (go_at_call 15; ((with_reducible refine (int_any _ _).mono ?_); rintro e w8 ⟨rfl, hb8⟩; have S8 := And.intro (S7.1.below hb8) (S7.2.below hb8); have F8 := below_add F7 hb8 F7.size; clear hb8))
      | (go_at_call 16; ((with_reducible refine (HF.out _).mono ?_); rintro e w9 ⟨rfl, hb9⟩; have S9 := And.intro (S8.1.below hb9) (S8.2.below hb9); have F9 := below_add F8 hb9 F8.size; clear hb9))
      | (go_at_call 18; ((with_reducible refine (HRF.out _).mono ?_); rintro e w10 ⟨rfl, hb10⟩; have S10 := And.intro (S9.1.below hb10) (S9.2.below hb10); have F10 := below_add F9 hb10 F9.size; clear hb10))
      | (go_at_call 7; ((with_reducible refine (HK.out _).mono ?_); rintro e w11 ⟨rfl, hb11⟩; have S11 := And.intro (S10.1.below hb11) (S10.2.below hb11); have F11 := below_add F10 hb11 F10.size; clear hb11)))
  go_wp2
  go_ret
  exact ⟨rfl, F11⟩

set_option maxHeartbeats 1000000 in
theorem may_walk_ftt (k n f : Int) (s : ByteArray) (a1 a2 : Int) (s3 : ByteArray) (w : World) (h0 : 0 ≤ f) (h1 : f < 18446744073709551616) (g0 : 0 ≤ a1) (g1 : a1 < 18446744073709551616)
    (l1 : s.size ≤ 1000) (l2 : s3.size ≤ 1000) (ht : textB s3 = true) (hn : numOk k n f s = true) :
    Calls Try.prog 3 #[val k n f s, .int .u64 a1, .int .i64 a2, .string s3, .bool false] w fun e w' => e = .returned (.bool true) ∧ Below w.heap.size w w' := by
  have HT := fun w => text_any s3 w
  have HR := fun w => rvmay_any 4 0 0 s3 w (by decide) (by decide) (by omega)
  have HN := fun w => number_any k n f s w h0 h1
  have HRN := fun w => rnumber_any k n f s w h0 h1 (by omega)
  have HM := fun w => vmay_any k n f s w h0 h1
  have HRM := fun w => rvmay_any k n f s w h0 h1 (by omega)
  have HK := Lib.hid known_any
  have HFL := Lib.hid (fun w => (flag_any false w).mono fun e w' h => (⟨h.1, h.2⟩ : e = .returned (val 1 0 0 ⟨#[]⟩) ∧ Below w.heap.size w w'))
  have HRF := Lib.hid (fun w => rfloat_any a1 w g0 g1)
  have HF := Lib.hid (fun w => floatF a1 w g0 g1)
  have hx := of_bits a1
  have hy := fun b => bits_of b
  have hq := fun k n f k' n' f' s s' w => val_neq k n f k' n' f' s s' w
  have he := fun k n f k' n' f' s s' w => val_eql k n f k' n' f' s s' w
  have hz := zero_ne
  rw [vmay_text, ht] at HR
  rw [textV_t ht, textE_t ht] at HT
  
  simp only [hn] at HN HRN
  generalize numF k n f s = X at HN HRN
  generalize vmay k n f s = m at HM HRM
  clear h0 h1 g0 g1 ht hn
  have HN := Lib.hid HN
  have HRN := Lib.hid HRN
  have HT := Lib.hid HT
  have HR := Lib.hid HR
  have HM := Lib.hid HM
  have HRM := Lib.hid HRM
  have A0 := (((At.box k n f s w 24).alloc (.cells (vcells 1 0 0 ⟨#[]⟩) 24)).alloc (.cells (vcells 4 0 0 s3) 24))
  have A1 := ((At.boxAt (B := w.heap.size + 1) 1 0 0 ⟨#[]⟩ (w := w.alloc (.cells (vcells k n f s) 24)) 24 (by simp)).alloc (.cells (vcells 4 0 0 s3) 24))
  have A2 := At.boxAt (B := w.heap.size + 2) 4 0 0 s3 (w := (w.alloc (.cells (vcells k n f s) 24)).alloc (.cells (vcells 1 0 0 ⟨#[]⟩) 24)) 24 (by simp)
  have E0 := (below_two w (.cells (vcells k n f s) 24) (.cells (vcells 1 0 0 ⟨#[]⟩) 24)).alloc (by simp; omega) (.cells (vcells 4 0 0 s3) 24)
  go_enter Try.func3, Try.ntmps3
  go_wp2_with fail
  refine (HT.out _).mono ?_
  rintro e w1 ⟨rfl, hb1⟩
  have E1 := below_add E0 hb1 E0.size
  have z1 : w.heap.size + 3 ≤ w1.heap.size := by have := hb1.size; simp at this; omega
  have A0 := ((A0.below hb1).alloc (.cells (vcells 4 0 0 s3) 24))
  have A1 := ((A1.below hb1).alloc (.cells (vcells 4 0 0 s3) 24))
  have A2 := ((A2.below hb1).alloc (.cells (vcells 4 0 0 s3) 24))
  have A3 := At.box 4 0 0 s3 w1 24
  have E1 := E1.alloc (by omega) (.cells (vcells 4 0 0 s3) 24)
  clear hb1 E0
  go_wp2_with fail
  refine (HR.out _).mono ?_
  rintro e w2 ⟨rfl, hb2⟩
  have E2 := below_add E1 hb2 E1.size
  have A0 := A0.below hb2
  have A1 := A1.below hb2
  have A2 := A2.below hb2
  have A3 := A3.below hb2
  clear hb2 E1
  go_wp2_with fail
  refine (HN.out _).mono ?_
  rintro e w3 ⟨rfl, hb3⟩
  have E3 := below_add E2 hb3 E2.size
  have A0 := A0.below hb3
  have A1 := A1.below hb3
  clear hb3 E2 A2 A3
  go_wp2_with fail
  refine (HRN.out _).mono ?_
  rintro e w4 ⟨rfl, hb4⟩
  have E4 := below_add E3 hb4 E3.size
  have A0 := A0.below hb4
  have A1 := A1.below hb4
  clear hb4 E3
  go_wp2_with fail
  have S0 := And.intro A0.drew A1.drew
  have F0 := E4.drew
  clear A0 A1 E4
  go_region_held3 (fun w' => At w.heap.size k n f s w' ∧ At (w.heap.size + 1) 1 0 0 ⟨#[]⟩ w') (first | assumption | trivial)
    (first
      | (go_at_call 13; ((with_reducible refine (HM.out _).mono ?_); rintro e w5 ⟨rfl, hb5⟩; have S5 := And.intro (S0.1.below hb5) (S0.2.below hb5); have F5 := below_add F0 hb5 F0.size; clear hb5))
      | (go_at_call 9; ((with_reducible refine (HRM.out _).mono ?_); rintro e w6 ⟨rfl, hb6⟩; have S6 := And.intro (S5.1.below hb6) (S5.2.below hb6); have F6 := below_add F5 hb6 F5.size; clear hb6))
      | (go_at_call 14; ((with_reducible refine (HFL.out _).mono ?_); rintro e w7 ⟨rfl, hb7⟩; have S7 := And.intro (S6.1.below hb7) (S6.2.below hb7); have F7 := below_add F6 hb7 F6.size; clear hb7))
      | (go_at_call 15; ((with_reducible refine (int_any _ _).mono ?_); rintro e w8 ⟨rfl, hb8⟩; have S8 := And.intro (S7.1.below hb8) (S7.2.below hb8); have F8 := below_add F7 hb8 F7.size; clear hb8))
      | (go_at_call 16; ((with_reducible refine (HF.out _).mono ?_); rintro e w9 ⟨rfl, hb9⟩; have S9 := And.intro (S8.1.below hb9) (S8.2.below hb9); have F9 := below_add F8 hb9 F8.size; clear hb9))
      | (go_at_call 18; ((with_reducible refine (HRF.out _).mono ?_); rintro e w10 ⟨rfl, hb10⟩; have S10 := And.intro (S9.1.below hb10) (S9.2.below hb10); have F10 := below_add F9 hb10 F9.size; clear hb10))
      | (go_at_call 7; ((with_reducible refine (HK.out _).mono ?_); rintro e w11 ⟨rfl, hb11⟩; have S11 := And.intro (S10.1.below hb11) (S10.2.below hb11); have F11 := below_add F10 hb11 F10.size; clear hb11)))
  go_wp2
  go_ret
  exact ⟨rfl, F11⟩
end Go.Proofs.Ytgckofoaiojocaa
