
import Derived.Test.YtoienmcgcefdiaaS22
import Derived.Test.YtoienmcgcefdiaaS15
/- S25: SchemaKeys, no key -/
namespace Go.Proofs.Ytoienmcgcefdiaa
open Go.RowKit
set_option linter.unusedVariables false

theorem mayKs_nil : mayKs [] := ⟨by simp, good_nil⟩
set_option maxRecDepth 100000 in
set_option maxHeartbeats 16000000 in
theorem keys_zero_walk (v : Value) (id k n f : Int) (s : ByteArray) (w : World) (hv : Krow w v []) (hs : s.size ≤ 1000) (hw : (Lit.int .i64 id).wf = true) (hf0 : 0 ≤ f) (hf1 : f < 18446744073709551616) :
    Calls Try.prog 3 #[v, .int .i64 id, val k n f s] w fun e w' => e = .returned (.bool true) ∧ Below w.heap.size w w' := by
  have HKN := Lib.hid (fun w => skn_any w)
  obtain ⟨i0, hi, hz0, hz1, hz2⟩ := info_parts infoKey
  have HV := Lib.hid hv
  have HN := Lib.hid (fun v2 W (hv2 : Krow W v2 []) => new_yes hv2 (by simp) mayKs_nil)
  have HRM := Lib.hid (fun W hb => (rmay_keys v [] W (hv.below hb (Nat.le_refl _))).mono fun e w' (h : MayPost [] W e w') => show e = .returned (.bool true) ∧ Below W.heap.size W w' by
    obtain ⟨h1, b, h2, h3⟩ := h
    cases b
    · exact absurd (h3.2 mayKs_nil) (by simp)
    · exact ⟨h2, h1⟩)
  have HRK := Lib.hid (fun W hb => (rkeys_any v [] W (hv.below hb (Nat.le_refl _))).mono fun e w' (h : KeysPost [] W e w') => show ∃ a c, e = .returned (.slice a 0 c) ∧ Below W.heap.size W w' by
    obtain ⟨v, he, ho, hb⟩ := h
    rw [rising_nil] at ho
    obtain ⟨a, c, rfl⟩ := (Krow.of_owns ho).1.shape
    exact ⟨a, c, he, hb⟩)
  have HRF := Lib.hid (fun W hb => (show Calls Try.prog 14 #[v, .int .i64 id] W fun e w' => e = .returned (.tuple #[kv noKey, .bool false]) ∧ Below W.heap.size W w' from rfind_any v [] id W (hv.below hb (Nat.le_refl _))))
  have HRG := Lib.hid (fun W hb => (rgroup_any v [] id W (hv.below hb (Nat.le_refl _)) (by simp) good_nil).mono fun e w' (h : GroupPost [] W e w') => show ∃ a c, e = .returned (.slice a 0 c) ∧ Below W.heap.size W w' by
    obtain ⟨v, he, ho, hb⟩ := h
    obtain ⟨a, c, rfl⟩ := (Ints.of_owns (k := .i64) (xs := []) ho).1.shape
    exact ⟨a, c, he, hb⟩)
  have HRFit := Lib.hid (fun W hb => (show Calls Try.prog 18 #[v, .int .i64 id, val k n f s] W fun e w' => e = .returned (.bool false) ∧ Below W.heap.size W w' from rfits_any v [] id k n f s W (hv.below hb (Nat.le_refl _)) hf0 hf1 (by omega)))
  obtain ⟨a, cap, hva⟩ := hv.shape
  simp only [List.length_nil] at hva
  subst hva
  clear hv
  have d3 : decide ((1000 : Int) < (s.size : Int)) = false := by rw [decide_eq_false_iff_not]; omega
  go_enter Try.func3, Try.ntmps3
  go_wp2_with (first
    | (at_builtin; refine wpList_append_keys rfl (.tmp 32) (.tmp 33) 22 rfl (w.heap.size + 1) 32 i0 (kv noKey) 24 Try.underlying22 hi hz0 hz1 hz2 rfl (.slice (some ⟨w.heap.size + 1, 0, none⟩) 0 0) 0 [] rfl (own6_empty w _ _) (.slice a 0 cap) [] rfl (HV.out.below (kbelow_two w _ _) (Nat.le_refl _)) (by simp) (by simp) (by simp only [World.size_alloc]; omega) ?_; intro v1 w1 hown1 hgrow1; have hk1 := (Krow.of_owns (ks := []) hown1).1; obtain ⟨a1, cap1, hv1⟩ := hk1.shape; simp only [List.length_nil] at hv1; subst hv1)
    | (go_at_call 8; ((with_reducible refine (HN.out _ _ hk1).mono ?_); rintro e w2 ⟨sp, rfl, hs2, hb2⟩)))
  have hB1 := (kbelow_two w (.cells (vcells k n f s) 25) (.cells #[] 32)).grown hgrow1 (by simp only [World.size_alloc]; omega) (fun q hq => by simp [Value.ownBlock] at hq; omega)
  have hA1 : At w.heap.size k n f s w1 := ((At.box k n f s w 25).below ((Below.refl _ _).alloc (Nat.le_refl _) (.cells #[] 32))).keep ((Below.refl (w.heap.size + 1) _).grown hgrow1 (by simp only [World.size_alloc]; omega) (fun q hq => by simp [Value.ownBlock] at hq; omega)) (by omega)
  have HB2 := Lib.hid (below_add hB1 hb2 hB1.size)
  have HA2 := Lib.hid (hA1.below hb2)
  have HS2 := Lib.hid hs2
  clear hown1 hgrow1 hb2 hB1 hs2 hA1 hk1
  refine wp_loop_rounds 1 ?_
  rw [rounds_succ]
  go_wp2_with (first
    | (go_at_call 9; ((with_reducible refine (HRM.out _ HB2.out).mono ?_); rintro e w3 ⟨rfl, hb3⟩))
    | (go_at_call 10; ((with_reducible refine (len_empty (.pointer (some sp)) _ (HS2.out.below hb3 (Nat.le_refl _))).mono ?_); rintro e w' ⟨rfl, rfl⟩))
    | (go_at_call 11; ((with_reducible refine (HRK.out _ (below_add HB2.out hb3 HB2.out.size)).mono ?_); rintro e w4 ⟨la, lcap, rfl, hb4⟩)))
  have HE0 := Lib.hid (below_add (below_add HB2.out hb3 HB2.out.size) hb4 (below_add HB2.out hb3 HB2.out.size).size)
  have HA4 := Lib.hid ((HA2.out.below hb3).below hb4)
  have HS4 := Lib.hid ((HS2.out.below hb3 (Nat.le_refl _)).below hb4 (Nat.le_refl _))
  clear hb3 hb4 HA2 HS2
  have HFD := Lib.hid (fun W hE => find_empty (.pointer (some sp)) id W (HS4.out.below hE (Nat.le_refl _)) hw)
  have HGR := Lib.hid (fun W hE => group_empty (.pointer (some sp)) id W (HS4.out.below hE (Nat.le_refl _)) hw)
  have HFT := Lib.hid (fun W hE => fits_empty (.pointer (some sp)) id k n f s W (HS4.out.below hE (Nat.le_refl _)) hw hf0 hf1)
  have HKS := Lib.hid (fun W hE => keys_empty (.pointer (some sp)) W (HS4.out.below hE (Nat.le_refl _)))
  go_loopw [12] (fun i wr => ∃ r : Nat, r ≤ 2 ∧ i = .int .i64 r ∧ Below w4.heap.size w4 wr) (fun i _ => 2 - (intOf i).toNat)
  case atStart => exact ⟨0, by omega, rfl, Below.refl _ _⟩
  case round =>
    obtain ⟨r, hr, rfl, hE⟩ := hrel
    by_cases hr2 : r < 2
    · have HE := Lib.hid hE
      clear hE
      go_wp2_with (go_at_call 12; ((with_reducible refine (HKS.out _ HE.out).mono ?_); rintro e w5 ⟨a5, cap5, rfl, hb5⟩))
      have HE6 := Lib.hid (below_add HE.out hb5 HE.out.size)
      clear hb5
      refine wp_loop_rounds 1 ?_
      rw [rounds_succ]
      go_wp2_with (first
        | (go_at_call 13; ((with_reducible refine (HFD.out _ HE6.out).mono ?_); rintro e w6 ⟨rfl, hb6⟩; have hE7 := (below_add HE6.out hb6 HE6.out.size).alloc (below_add HE6.out hb6 HE6.out.size).size (.cells (kca noKey) 32); have hK1 := KBox.box noKey w6 32))
        | (go_at_call 14; ((with_reducible refine (HRF.out _ (below_add HE0.out hE7 HE0.out.size)).mono ?_); rintro e w7 ⟨rfl, hb7⟩; have hE8 := (below_add hE7 hb7 hE7.size).alloc (below_add hE7 hb7 hE7.size).size (.cells (kca noKey) 32); have hK2 := KBox.box noKey w7 32; have hK1 := (hK1.below hb7 (by simp)).below ((Below.refl _ _).alloc (Nat.le_refl _) (.cells (kca noKey) 32)) (by have := hb7.size; simp at this; omega)))
        | (go_at_call 15; ((with_reducible refine (HGR.out _ hE8).mono ?_); rintro e w8 ⟨a8, cap8, rfl, hb8⟩; have hE9 := below_add hE8 hb8 hE8.size))
        | (go_at_call 16; ((with_reducible refine (HRG.out _ (below_add HE0.out hE9 HE0.out.size)).mono ?_); rintro e w9 ⟨a9, cap9, rfl, hb9⟩; have hE10 := below_add hE9 hb9 hE9.size)))
      have hK1' := (hK1.below hb8 (by have h7 := hb7.size; simp only [World.size_alloc] at h7 ⊢; omega)).below hb9 (by have h7 := hb7.size; have h8 := hb8.size; simp only [World.size_alloc] at h7 h8; omega)
      have hK2' := (hK2.below hb8 (by simp)).below hb9 (by have h8 := hb8.size; simp only [World.size_alloc] at h8; omega)
      have hC0 : KeysC w6.heap.size w7.heap.size w.heap.size noKey k n f s w9 w9 := ⟨hK1', hK2', HA4.out.below hE10, Below.refl _ _⟩
      have HE10 := Lib.hid hE10
      have KF := Lib.hid (fun w1 (hC : KeysC w6.heap.size w7.heap.size w.heap.size noKey k n f s w9 w1) => (HFT.out w1 (below_add hE10 hC.2.2.2 hE10.size)).mono fun e w' (h : e = .returned (.bool false) ∧ Below w1.heap.size w1 w') => (show e = .returned (.bool false) ∧ KeysC w6.heap.size w7.heap.size w.heap.size noKey k n f s w9 w' from ⟨h.1, hC.below h.2⟩))
      have KR := Lib.hid (fun w1 (hC : KeysC w6.heap.size w7.heap.size w.heap.size noKey k n f s w9 w1) => (HRFit.out w1 (below_add (below_add HE0.out hE10 HE0.out.size) hC.2.2.2 (below_add HE0.out hE10 HE0.out.size).size)).mono fun e w' (h : e = .returned (.bool false) ∧ Below w1.heap.size w1 w') => (show e = .returned (.bool false) ∧ KeysC w6.heap.size w7.heap.size w.heap.size noKey k n f s w9 w' from ⟨h.1, hC.below h.2⟩))
      have hqk := fun w => key_neq noKey noKey w
      simp only [keq_self, Bool.not_true] at hqk
      have hqf := fun w => run_neq_bool (P := Try.prog) (w := w) 4 false false Try.underlying4
      simp only [beq_self_eq_true, Bool.not_true] at hqf
      clear hE7 hE8 hE9 hE10 hb6 hb7 hb8 hb9 hK1 hK2 hK1' hK2' HE6
      generalize w6.heap.size = A1 at *
      generalize w7.heap.size = A2 at *
      refine region_class (C := KeysC A1 A2 w.heap.size noKey k n f s w9) (by kernel_rfl) (by kernel_rfl) (hC0.below ((Below.refl _ _).drew)) ?_
      repeat (first
        | (refine q_skip (by rfl) ?_
           simp only [Act.put, List.setIfInBounds_toArray, List.set_cons_zero, List.set_cons_succ])
        | (refine q_val (v := ?_) (by rfl) (fun w hS => ?_) ?_
           rotate_left
           · obtain ⟨⟨p0, p1, p2, p3, p4, p5⟩, ⟨r0, r1, r2, r3, r4, r5⟩, ⟨t0, t1, t2, t3⟩, -⟩ := hS
             go_simp
             try with_reducible rfl
           simp only [Act.put, List.setIfInBounds_toArray, List.set_cons_zero, List.set_cons_succ])
        | (refine q_call (by rfl) (fun w hS => ?_) KF.out ?_
           · obtain ⟨⟨p0, p1, p2, p3, p4, p5⟩, ⟨r0, r1, r2, r3, r4, r5⟩, ⟨t0, t1, t2, t3⟩, -⟩ := hS
             go_simp
           simp only [Act.put, List.setIfInBounds_toArray, List.set_cons_zero, List.set_cons_succ])
        | (refine q_call (by rfl) (fun w hS => ?_) KR.out ?_
           · obtain ⟨⟨p0, p1, p2, p3, p4, p5⟩, ⟨r0, r1, r2, r3, r4, r5⟩, ⟨t0, t1, t2, t3⟩, -⟩ := hS
             go_simp
           simp only [Act.put, List.setIfInBounds_toArray, List.set_cons_zero, List.set_cons_succ]))
      refine q_end ?_
      intro w10 hC10
      have hb10 := hC10.2.2.2
      have HE11 := Lib.hid (below_add HE10.out hb10 HE10.out.size)
      clear hC0 hC10 hb10 hqk hqf
      go_wp2_with fail
      refine wp_loop_rounds 1 ?_
      rw [rounds_succ]
      go_wp2
      go_roundw
      case rel => exact ⟨r + 1, by omega, by go_num, HE11.out⟩
      case measure => simp [intOf]; omega
    · obtain rfl : r = 2 := by omega
      have HE := Lib.hid hE
      clear hE
      go_wp2_with (go_at_call 7; refine (HKN.out _).mono ?_; rintro e w' ⟨rfl, hb5⟩)
      go_ret
      exact ⟨rfl, below_add (below_add HE0.out HE.out HE0.out.size) hb5 (below_add HE0.out HE.out HE0.out.size).size⟩

theorem keys_walk (v : Value) (ks : List Key) (id k n f : Int) (s : ByteArray) (w : World) (hv : Krow w v ks) (hW : ∀ k ∈ ks, KeyW k) (hw : (Lit.int .i64 id).wf = true) (hf0 : 0 ≤ f) (hf1 : f < 18446744073709551616) (hsm : s.size ≤ maxLen) :
    Calls Try.prog 3 #[v, .int .i64 id, val k n f s] w fun e w' => e = .returned (.bool true) ∧ Below w.heap.size w w' := by
  by_cases hl : 200 < ks.length
  · exact keys_long v ks id k n f s w hv hl
  · by_cases hs : 1000 < s.size
    · exact keys_text v ks id k n f s w hv hl hs hsm
    · by_cases h0 : 0 < ks.length
      · by_cases hm : mayKs ks
        · exact keys_good v ks id k n f s w hv hW h0 (by omega) hm hw hf0 hf1
        · exact keys_bad v ks id k n f s w hv hW hl h0 (by omega) hm
      · obtain rfl : ks = [] := List.eq_nil_of_length_eq_zero (by omega)
        exact keys_zero_walk v id k n f s w hv (by omega) hw hf0 hf1
end Go.Proofs.Ytoienmcgcefdiaa
