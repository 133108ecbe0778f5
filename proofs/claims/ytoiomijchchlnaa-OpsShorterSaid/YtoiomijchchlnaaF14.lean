
import Derived.Test.YtoiomijchchlnaaF13
/- F14: OpsShorter -/
namespace Go.Proofs.Ytoiomijchchlnaa
open Go.RowKit
set_option linter.unusedVariables false

theorem oneF_h (ks : List Key) (k n most f : Int) (h : fitsX ks [oN k] n most = f) (hk : -9223372036854775808 ≤ k ∧ k ≤ 9223372036854775807) (hn : n ≤ 9223372036854775807) (hm : most ≤ 9223372036854775807) (v : Value) (W : World) (hs : Sch W v ks) :
    Calls Try.prog 9 #[v, .slice (some ⟨W.heap.size, 0, none⟩) 1 1, .int .i64 n, .int .i64 most] (W.alloc (.cells #[.int .u8 1, .int .i64 k, .slice none 0 0, .slice none 0 0, .slice none 0 0] 41)) fun e w' => e = .returned (.int .i64 f) ∧ Below W.heap.size W w' := by
  have hb := kbelow_one W (.cells (fl opC [ovN k]).toArray 41)
  have := (fits_h ks [oN k] n most f h (by intro p hp; obtain rfl := List.mem_singleton.1 hp; exact wfN (Go.WalkArith.wf_i64 hk)) hn hm v _ _ (hs.below hb (Nat.le_refl _)) (orow_one W 41 (ovN k) (oN k) (rN W k))).mono fun e w' ⟨he, hw⟩ => (⟨he, below_add hb hw hb.size⟩ : _ ∧ Below W.heap.size W w')
  exact this

set_option maxRecDepth 100000 in
set_option maxHeartbeats 4000000 in
theorem opsShorter_walk (kv v : Value) (ks : List Key) (ls : List Opn) (n less most : Int) (w : World) (hk : Krow w kv ks) (yk : ∀ k ∈ ks, KeyW k) (hv : Orow w v ls) (yv : ∀ p ∈ ls, OpW p) (wn : (Lit.int .i64 n).wf = true) (wless : (Lit.int .i64 less).wf = true) (wmost : (Lit.int .i64 most).wf = true) :
    Calls Try.prog 5 #[kv, v, .int .i64 n, .int .i64 less, .int .i64 most] w fun e w' => e = .returned (.bool true) ∧ Below w.heap.size w w' := by
  have HK := Lib.hid (fun w => known15_any w)
  have hlk := hk.len
  have hlv := hv.len
  obtain ⟨ka, kc, rfl⟩ := hk.shape
  obtain ⟨ua, uc, rfl⟩ := hv.shape
  have bn := Go.bounds_i64 wn
  have bless := Go.bounds_i64 wless
  have bmost := Go.bounds_i64 wmost
  have HG := Lib.hid (great_any ka ks.length kc ua uc ls hlk w hv)
  obtain ⟨ln, hln⟩ : ∃ n, ls.length = n := ⟨_, rfl⟩
  have HLN := Lib.hid hln
  rw [hln] at HG hlv hv ⊢
  have HB0 := Lib.hid (Below.refl w.heap.size w)
  have Hk0 := Lib.hid hk
  have Hv0 := Lib.hid hv
  clear hk hv hln wn wless wmost
  go_enter Try.func5, Try.ntmps5
  go_wp2_with fail
  go_at_call 6
  refine HG.out.mono ?_
  rintro e w1 ⟨⟨g, rfl⟩, hb⟩
  have Hk1 := Lib.hid (Hk0.out.below hb (Nat.le_refl _))
  have Hv1 := Lib.hid (Hv0.out.below hb)
  have HB1 := Lib.hid hb
  clear hb HG Hk0 Hv0
  cases g
  rotate_left
  · go_wp2_with (first
      | (go_at_call 7; (with_reducible refine (HK.out _).mono ?_); rintro e w99 ⟨rfl, hb⟩; have HB99 := Lib.hid (below_add HB1.out hb HB1.out.size); clear hb))
    go_ret
    exact ⟨rfl, HB99.out⟩
  by_cases hc : n < 1
  · have d1 : decide (n < 1) = true := decide_eq_true hc
    clear hc
    go_wp2_with (first
      | (go_at_call 7; (with_reducible refine (HK.out _).mono ?_); rintro e w99 ⟨rfl, hb⟩; have HB99 := Lib.hid (below_add HB1.out hb HB1.out.size); clear hb))
    go_ret
    exact ⟨rfl, HB99.out⟩
  have d0 : decide (n < 1) = false := decide_eq_false hc
  have q0 := hc
  clear hc
  by_cases hc : 1073741824 < n
  · have d1 : decide (1073741824 < n) = true := decide_eq_true hc
    clear hc
    go_wp2_with (first
      | (go_at_call 7; (with_reducible refine (HK.out _).mono ?_); rintro e w99 ⟨rfl, hb⟩; have HB99 := Lib.hid (below_add HB1.out hb HB1.out.size); clear hb))
    go_ret
    exact ⟨rfl, HB99.out⟩
  have d1 : decide (1073741824 < n) = false := decide_eq_false hc
  have q1 := hc
  clear hc
  by_cases hc : less < 0
  · have d1 : decide (less < 0) = true := decide_eq_true hc
    clear hc
    go_wp2_with (first
      | (go_at_call 7; (with_reducible refine (HK.out _).mono ?_); rintro e w99 ⟨rfl, hb⟩; have HB99 := Lib.hid (below_add HB1.out hb HB1.out.size); clear hb))
    go_ret
    exact ⟨rfl, HB99.out⟩
  have d2 : decide (less < 0) = false := decide_eq_false hc
  have q2 := hc
  clear hc
  by_cases hc : n ≤ less
  · have d1 : decide (n ≤ less) = true := decide_eq_true hc
    clear hc
    go_wp2_with (first
      | (go_at_call 7; (with_reducible refine (HK.out _).mono ?_); rintro e w99 ⟨rfl, hb⟩; have HB99 := Lib.hid (below_add HB1.out hb HB1.out.size); clear hb))
    go_ret
    exact ⟨rfl, HB99.out⟩
  have d3 : decide (n ≤ less) = false := decide_eq_false hc
  have q3 := hc
  clear hc
  by_cases hc : most < n
  · have d1 : decide (most < n) = true := decide_eq_true hc
    clear hc
    go_wp2_with (first
      | (go_at_call 7; (with_reducible refine (HK.out _).mono ?_); rintro e w99 ⟨rfl, hb⟩; have HB99 := Lib.hid (below_add HB1.out hb HB1.out.size); clear hb))
    go_ret
    exact ⟨rfl, HB99.out⟩
  have d4 : decide (most < n) = false := decide_eq_false hc
  have q4 := hc
  clear hc
  by_cases hc : 1073741824 < most
  · have d1 : decide (1073741824 < most) = true := decide_eq_true hc
    clear hc
    go_wp2_with (first
      | (go_at_call 7; (with_reducible refine (HK.out _).mono ?_); rintro e w99 ⟨rfl, hb⟩; have HB99 := Lib.hid (below_add HB1.out hb HB1.out.size); clear hb))
    go_ret
    exact ⟨rfl, HB99.out⟩
  have d5 : decide (1073741824 < most) = false := decide_eq_false hc
  have q5 := hc
  clear hc
  by_cases hm : mayKs ks
  rotate_left
  · have HN := Lib.hid (newno_h ks yk hm)
    clear hm yk
    go_wp2_with (first
      | (go_at_call 8; (with_reducible refine (HN.out _ _ Hk1.out).mono ?_); rintro e w2 ⟨rfl, hb⟩; have hb2 := hb; have Hk2 := Lib.hid (Hk1.out.below hb2 (Nat.le_refl _)); have Hv2 := Lib.hid (Hv1.out.below hb2); have HB2 := Lib.hid (below_add HB1.out hb2 HB1.out.size); clear hb hb2)
      | (go_at_call 7; (with_reducible refine (HK.out _).mono ?_); rintro e w99 ⟨rfl, hb⟩; have HB99 := Lib.hid (below_add HB2.out hb HB2.out.size); clear hb))
    go_ret
    exact ⟨rfl, HB99.out⟩
  have HN := Lib.hid (new_h ks yk hm)
  have p1 : 1 ≤ n := by omega
  have p2 : n ≤ 1073741824 := by omega
  have p3 : n ≤ most := by omega
  have p4 : most ≤ 1073741824 := by omega
  have p5 : 0 ≤ less := by omega
  have p6 : less < n := by omega
  obtain ⟨f, hf⟩ : ∃ f, fitsX ks ls n most = f := ⟨_, rfl⟩
  have HF := Lib.hid (fits_h ks ls n most f hf yv (by omega) (by omega))
  have x1 : IntKind.i64.wrap (n - less) = n - less := by rw [IntKind.wrap_i64]; omega
  have x2 : less.tmod n = less := Int.tmod_eq_of_lt p5 p6
  have x3 : IntKind.i64.wrap (1 + less) = 1 + less := by rw [IntKind.wrap_i64]; omega
  have x4 : decide (1 + less ≤ n) = true := decide_eq_true (by omega)
  obtain ⟨h1, hh1⟩ : ∃ f, fitsX ks [oN (1 + less)] n most = f := ⟨_, rfl⟩
  have hone := fits_one ks (k := 1 + less) (n := n) (most := most) (by omega) (by omega) p3
  rw [hh1] at hone
  have HO := Lib.hid (oneF_h ks (1 + less) n most h1 hh1 (by omega) (by omega) (by omega))
  obtain ⟨f2, hf2⟩ : ∃ f, fitsX ks ls n n = f := ⟨_, rfl⟩
  have HF2 := Lib.hid (fits_h ks ls n n f2 hf2 yv (by omega) (by omega))
  obtain ⟨f3, hf3⟩ : ∃ f, fitsX ks ls (n - less) most = f := ⟨_, rfl⟩
  have HF3 := Lib.hid (fits_h ks ls (n - less) most f3 hf3 yv (by omega) (by omega))
  have x5 : (n == 0) = false := by simp; omega
  have x7 : less % n = less := Int.emod_eq_of_lt p5 p6
  have hl3 := fits_less (ks := ks) (xs := ls) p1 p3 p5 p6
  have ht := fits_tight (ks := ks) (xs := ls) (n := n) p3
  rw [hf, hf3] at hl3
  rw [hf, hf2] at ht
  clear yk hm yv q0 q1 q2 q3 q4 q5 hf hh1 hf2 hf3
  by_cases h0 : f = 0
  · subst h0
    by_cases hle : 1 + less ≤ 536870912
    · have y1 : decide (1 + less ≤ 536870912) = true := decide_eq_true hle
      have y0 : h1 = 0 := by rw [y1] at hone; simpa using hone
      subst y0
      clear hone hle hl3 ht
      go_wp2_with (first
        | (go_at_call 8; (with_reducible refine (HN.out _ _ Hk1.out).mono ?_); rintro e w2 ⟨s2, rfl, hs, hb⟩; have hb2 := hb; have Hv2 := Lib.hid (Hv1.out.below hb2); have HB2 := Lib.hid (below_add HB1.out hb2 HB1.out.size); have Hs2 := Lib.hid (hs.out); clear hs; clear hb hb2)
        | (go_at_call 9; (with_reducible refine (HF.out _ _ _ Hs2.out Hv2.out).mono ?_); rintro e w3 ⟨rfl, hb⟩; have hb3 := hb; have Hv3 := Lib.hid (Hv2.out.below hb3); have Hs3 := Lib.hid (Hs2.out.below hb3 (Nat.le_refl _)); have HB3 := Lib.hid (below_add HB2.out hb3 HB2.out.size); clear hb hb3)
        | (go_at_call 9; (with_reducible refine (HO.out _ _ Hs3.out).mono ?_); rintro e w4 ⟨rfl, hb⟩; have hb4 := hb; have Hv4 := Lib.hid (Hv3.out.below hb4); have Hs4 := Lib.hid (Hs3.out.below hb4 (Nat.le_refl _)); have HB4 := Lib.hid (below_add HB3.out hb4 HB3.out.size); clear hb hb4)
        | (go_at_call 7; (with_reducible refine (HK.out _).mono ?_); rintro e w99 ⟨rfl, hb⟩; have HB99 := Lib.hid (below_add HB4.out hb HB4.out.size); clear hb))
      go_ret
      exact ⟨rfl, HB99.out⟩
    · have y1 : decide (1 + less ≤ 536870912) = false := decide_eq_false hle
      have y0 : ¬ h1 = 0 := by rw [y1] at hone; simpa using hone
      have y2 : (h1 == 0) = false := by simpa using y0
      clear hone hle y0 hl3 ht
      go_wp2_with (first
        | (go_at_call 8; (with_reducible refine (HN.out _ _ Hk1.out).mono ?_); rintro e w2 ⟨s2, rfl, hs, hb⟩; have hb2 := hb; have Hv2 := Lib.hid (Hv1.out.below hb2); have HB2 := Lib.hid (below_add HB1.out hb2 HB1.out.size); have Hs2 := Lib.hid (hs.out); clear hs; clear hb hb2)
        | (go_at_call 9; (with_reducible refine (HF.out _ _ _ Hs2.out Hv2.out).mono ?_); rintro e w3 ⟨rfl, hb⟩; have hb3 := hb; have Hv3 := Lib.hid (Hv2.out.below hb3); have Hs3 := Lib.hid (Hs2.out.below hb3 (Nat.le_refl _)); have HB3 := Lib.hid (below_add HB2.out hb3 HB2.out.size); clear hb hb3)
        | (go_at_call 9; (with_reducible refine (HO.out _ _ Hs3.out).mono ?_); rintro e w4 ⟨rfl, hb⟩; have hb4 := hb; have Hv4 := Lib.hid (Hv3.out.below hb4); have Hs4 := Lib.hid (Hs3.out.below hb4 (Nat.le_refl _)); have HB4 := Lib.hid (below_add HB3.out hb4 HB3.out.size); clear hb hb4)
        | (go_at_call 7; (with_reducible refine (HK.out _).mono ?_); rintro e w99 ⟨rfl, hb⟩; have HB99 := Lib.hid (below_add HB4.out hb HB4.out.size); clear hb))
      go_ret
      exact ⟨rfl, HB99.out⟩
  have ef : (f != 0) = true := by simpa using h0
  have y3 : (f2 == 0) = false := by simpa using ht h0
  by_cases h3 : f = 3
  · subst h3
    obtain rfl := hl3 (.inl rfl)
    by_cases hle : 1 + less ≤ 536870912
    · have y1 : decide (1 + less ≤ 536870912) = true := decide_eq_true hle
      have y0 : h1 = 0 := by rw [y1] at hone; simpa using hone
      subst y0
      clear hone hle hl3 ht
      go_wp2_with (first
        | (go_at_call 8; (with_reducible refine (HN.out _ _ Hk1.out).mono ?_); rintro e w2 ⟨s2, rfl, hs, hb⟩; have hb2 := hb; have Hv2 := Lib.hid (Hv1.out.below hb2); have HB2 := Lib.hid (below_add HB1.out hb2 HB1.out.size); have Hs2 := Lib.hid (hs.out); clear hs; clear hb hb2)
        | (go_at_call 9; (with_reducible refine (HF.out _ _ _ Hs2.out Hv2.out).mono ?_); rintro e w3 ⟨rfl, hb⟩; have hb3 := hb; have Hv3 := Lib.hid (Hv2.out.below hb3); have Hs3 := Lib.hid (Hs2.out.below hb3 (Nat.le_refl _)); have HB3 := Lib.hid (below_add HB2.out hb3 HB2.out.size); clear hb hb3)
        | (go_at_call 9; (with_reducible refine (HF3.out _ _ _ Hs3.out Hv3.out).mono ?_); rintro e w4 ⟨rfl, hb⟩; have hb4 := hb; have Hv4 := Lib.hid (Hv3.out.below hb4); have Hs4 := Lib.hid (Hs3.out.below hb4 (Nat.le_refl _)); have HB4 := Lib.hid (below_add HB3.out hb4 HB3.out.size); clear hb hb4)
        | (go_at_call 9; (with_reducible refine (HF2.out _ _ _ Hs4.out Hv4.out).mono ?_); rintro e w5 ⟨rfl, hb⟩; have hb5 := hb; have Hv5 := Lib.hid (Hv4.out.below hb5); have Hs5 := Lib.hid (Hs4.out.below hb5 (Nat.le_refl _)); have HB5 := Lib.hid (below_add HB4.out hb5 HB4.out.size); clear hb hb5)
        | (go_at_call 9; (with_reducible refine (HO.out _ _ Hs5.out).mono ?_); rintro e w6 ⟨rfl, hb⟩; have hb6 := hb; have Hv6 := Lib.hid (Hv5.out.below hb6); have Hs6 := Lib.hid (Hs5.out.below hb6 (Nat.le_refl _)); have HB6 := Lib.hid (below_add HB5.out hb6 HB5.out.size); clear hb hb6)
        | (go_at_call 7; (with_reducible refine (HK.out _).mono ?_); rintro e w99 ⟨rfl, hb⟩; have HB99 := Lib.hid (below_add HB6.out hb HB6.out.size); clear hb))
      go_ret
      exact ⟨rfl, HB99.out⟩
    · have y1 : decide (1 + less ≤ 536870912) = false := decide_eq_false hle
      have y0 : ¬ h1 = 0 := by rw [y1] at hone; simpa using hone
      have y2 : (h1 == 0) = false := by simpa using y0
      clear hone hle y0 hl3 ht
      go_wp2_with (first
        | (go_at_call 8; (with_reducible refine (HN.out _ _ Hk1.out).mono ?_); rintro e w2 ⟨s2, rfl, hs, hb⟩; have hb2 := hb; have Hv2 := Lib.hid (Hv1.out.below hb2); have HB2 := Lib.hid (below_add HB1.out hb2 HB1.out.size); have Hs2 := Lib.hid (hs.out); clear hs; clear hb hb2)
        | (go_at_call 9; (with_reducible refine (HF.out _ _ _ Hs2.out Hv2.out).mono ?_); rintro e w3 ⟨rfl, hb⟩; have hb3 := hb; have Hv3 := Lib.hid (Hv2.out.below hb3); have Hs3 := Lib.hid (Hs2.out.below hb3 (Nat.le_refl _)); have HB3 := Lib.hid (below_add HB2.out hb3 HB2.out.size); clear hb hb3)
        | (go_at_call 9; (with_reducible refine (HF3.out _ _ _ Hs3.out Hv3.out).mono ?_); rintro e w4 ⟨rfl, hb⟩; have hb4 := hb; have Hv4 := Lib.hid (Hv3.out.below hb4); have Hs4 := Lib.hid (Hs3.out.below hb4 (Nat.le_refl _)); have HB4 := Lib.hid (below_add HB3.out hb4 HB3.out.size); clear hb hb4)
        | (go_at_call 9; (with_reducible refine (HF2.out _ _ _ Hs4.out Hv4.out).mono ?_); rintro e w5 ⟨rfl, hb⟩; have hb5 := hb; have Hv5 := Lib.hid (Hv4.out.below hb5); have Hs5 := Lib.hid (Hs4.out.below hb5 (Nat.le_refl _)); have HB5 := Lib.hid (below_add HB4.out hb5 HB4.out.size); clear hb hb5)
        | (go_at_call 9; (with_reducible refine (HO.out _ _ Hs5.out).mono ?_); rintro e w6 ⟨rfl, hb⟩; have hb6 := hb; have Hv6 := Lib.hid (Hv5.out.below hb6); have Hs6 := Lib.hid (Hs5.out.below hb6 (Nat.le_refl _)); have HB6 := Lib.hid (below_add HB5.out hb6 HB5.out.size); clear hb hb6)
        | (go_at_call 7; (with_reducible refine (HK.out _).mono ?_); rintro e w99 ⟨rfl, hb⟩; have HB99 := Lib.hid (below_add HB6.out hb HB6.out.size); clear hb))
      go_ret
      exact ⟨rfl, HB99.out⟩
  by_cases h4 : f = 4
  · subst h4
    obtain rfl := hl3 (.inr (.inl rfl))
    by_cases hle : 1 + less ≤ 536870912
    · have y1 : decide (1 + less ≤ 536870912) = true := decide_eq_true hle
      have y0 : h1 = 0 := by rw [y1] at hone; simpa using hone
      subst y0
      clear hone hle hl3 ht
      go_wp2_with (first
        | (go_at_call 8; (with_reducible refine (HN.out _ _ Hk1.out).mono ?_); rintro e w2 ⟨s2, rfl, hs, hb⟩; have hb2 := hb; have Hv2 := Lib.hid (Hv1.out.below hb2); have HB2 := Lib.hid (below_add HB1.out hb2 HB1.out.size); have Hs2 := Lib.hid (hs.out); clear hs; clear hb hb2)
        | (go_at_call 9; (with_reducible refine (HF.out _ _ _ Hs2.out Hv2.out).mono ?_); rintro e w3 ⟨rfl, hb⟩; have hb3 := hb; have Hv3 := Lib.hid (Hv2.out.below hb3); have Hs3 := Lib.hid (Hs2.out.below hb3 (Nat.le_refl _)); have HB3 := Lib.hid (below_add HB2.out hb3 HB2.out.size); clear hb hb3)
        | (go_at_call 9; (with_reducible refine (HF3.out _ _ _ Hs3.out Hv3.out).mono ?_); rintro e w4 ⟨rfl, hb⟩; have hb4 := hb; have Hv4 := Lib.hid (Hv3.out.below hb4); have Hs4 := Lib.hid (Hs3.out.below hb4 (Nat.le_refl _)); have HB4 := Lib.hid (below_add HB3.out hb4 HB3.out.size); clear hb hb4)
        | (go_at_call 9; (with_reducible refine (HF2.out _ _ _ Hs4.out Hv4.out).mono ?_); rintro e w5 ⟨rfl, hb⟩; have hb5 := hb; have Hv5 := Lib.hid (Hv4.out.below hb5); have Hs5 := Lib.hid (Hs4.out.below hb5 (Nat.le_refl _)); have HB5 := Lib.hid (below_add HB4.out hb5 HB4.out.size); clear hb hb5)
        | (go_at_call 9; (with_reducible refine (HO.out _ _ Hs5.out).mono ?_); rintro e w6 ⟨rfl, hb⟩; have hb6 := hb; have Hv6 := Lib.hid (Hv5.out.below hb6); have Hs6 := Lib.hid (Hs5.out.below hb6 (Nat.le_refl _)); have HB6 := Lib.hid (below_add HB5.out hb6 HB5.out.size); clear hb hb6)
        | (go_at_call 7; (with_reducible refine (HK.out _).mono ?_); rintro e w99 ⟨rfl, hb⟩; have HB99 := Lib.hid (below_add HB6.out hb HB6.out.size); clear hb))
      go_ret
      exact ⟨rfl, HB99.out⟩
    · have y1 : decide (1 + less ≤ 536870912) = false := decide_eq_false hle
      have y0 : ¬ h1 = 0 := by rw [y1] at hone; simpa using hone
      have y2 : (h1 == 0) = false := by simpa using y0
      clear hone hle y0 hl3 ht
      go_wp2_with (first
        | (go_at_call 8; (with_reducible refine (HN.out _ _ Hk1.out).mono ?_); rintro e w2 ⟨s2, rfl, hs, hb⟩; have hb2 := hb; have Hv2 := Lib.hid (Hv1.out.below hb2); have HB2 := Lib.hid (below_add HB1.out hb2 HB1.out.size); have Hs2 := Lib.hid (hs.out); clear hs; clear hb hb2)
        | (go_at_call 9; (with_reducible refine (HF.out _ _ _ Hs2.out Hv2.out).mono ?_); rintro e w3 ⟨rfl, hb⟩; have hb3 := hb; have Hv3 := Lib.hid (Hv2.out.below hb3); have Hs3 := Lib.hid (Hs2.out.below hb3 (Nat.le_refl _)); have HB3 := Lib.hid (below_add HB2.out hb3 HB2.out.size); clear hb hb3)
        | (go_at_call 9; (with_reducible refine (HF3.out _ _ _ Hs3.out Hv3.out).mono ?_); rintro e w4 ⟨rfl, hb⟩; have hb4 := hb; have Hv4 := Lib.hid (Hv3.out.below hb4); have Hs4 := Lib.hid (Hs3.out.below hb4 (Nat.le_refl _)); have HB4 := Lib.hid (below_add HB3.out hb4 HB3.out.size); clear hb hb4)
        | (go_at_call 9; (with_reducible refine (HF2.out _ _ _ Hs4.out Hv4.out).mono ?_); rintro e w5 ⟨rfl, hb⟩; have hb5 := hb; have Hv5 := Lib.hid (Hv4.out.below hb5); have Hs5 := Lib.hid (Hs4.out.below hb5 (Nat.le_refl _)); have HB5 := Lib.hid (below_add HB4.out hb5 HB4.out.size); clear hb hb5)
        | (go_at_call 9; (with_reducible refine (HO.out _ _ Hs5.out).mono ?_); rintro e w6 ⟨rfl, hb⟩; have hb6 := hb; have Hv6 := Lib.hid (Hv5.out.below hb6); have Hs6 := Lib.hid (Hs5.out.below hb6 (Nat.le_refl _)); have HB6 := Lib.hid (below_add HB5.out hb6 HB5.out.size); clear hb hb6)
        | (go_at_call 7; (with_reducible refine (HK.out _).mono ?_); rintro e w99 ⟨rfl, hb⟩; have HB99 := Lib.hid (below_add HB6.out hb HB6.out.size); clear hb))
      go_ret
      exact ⟨rfl, HB99.out⟩
  by_cases h5 : f = 5
  · subst h5
    obtain rfl := hl3 (.inr (.inr rfl))
    by_cases hle : 1 + less ≤ 536870912
    · have y1 : decide (1 + less ≤ 536870912) = true := decide_eq_true hle
      have y0 : h1 = 0 := by rw [y1] at hone; simpa using hone
      subst y0
      clear hone hle hl3 ht
      go_wp2_with (first
        | (go_at_call 8; (with_reducible refine (HN.out _ _ Hk1.out).mono ?_); rintro e w2 ⟨s2, rfl, hs, hb⟩; have hb2 := hb; have Hv2 := Lib.hid (Hv1.out.below hb2); have HB2 := Lib.hid (below_add HB1.out hb2 HB1.out.size); have Hs2 := Lib.hid (hs.out); clear hs; clear hb hb2)
        | (go_at_call 9; (with_reducible refine (HF.out _ _ _ Hs2.out Hv2.out).mono ?_); rintro e w3 ⟨rfl, hb⟩; have hb3 := hb; have Hv3 := Lib.hid (Hv2.out.below hb3); have Hs3 := Lib.hid (Hs2.out.below hb3 (Nat.le_refl _)); have HB3 := Lib.hid (below_add HB2.out hb3 HB2.out.size); clear hb hb3)
        | (go_at_call 9; (with_reducible refine (HF3.out _ _ _ Hs3.out Hv3.out).mono ?_); rintro e w4 ⟨rfl, hb⟩; have hb4 := hb; have Hv4 := Lib.hid (Hv3.out.below hb4); have Hs4 := Lib.hid (Hs3.out.below hb4 (Nat.le_refl _)); have HB4 := Lib.hid (below_add HB3.out hb4 HB3.out.size); clear hb hb4)
        | (go_at_call 9; (with_reducible refine (HF2.out _ _ _ Hs4.out Hv4.out).mono ?_); rintro e w5 ⟨rfl, hb⟩; have hb5 := hb; have Hv5 := Lib.hid (Hv4.out.below hb5); have Hs5 := Lib.hid (Hs4.out.below hb5 (Nat.le_refl _)); have HB5 := Lib.hid (below_add HB4.out hb5 HB4.out.size); clear hb hb5)
        | (go_at_call 9; (with_reducible refine (HO.out _ _ Hs5.out).mono ?_); rintro e w6 ⟨rfl, hb⟩; have hb6 := hb; have Hv6 := Lib.hid (Hv5.out.below hb6); have Hs6 := Lib.hid (Hs5.out.below hb6 (Nat.le_refl _)); have HB6 := Lib.hid (below_add HB5.out hb6 HB5.out.size); clear hb hb6)
        | (go_at_call 7; (with_reducible refine (HK.out _).mono ?_); rintro e w99 ⟨rfl, hb⟩; have HB99 := Lib.hid (below_add HB6.out hb HB6.out.size); clear hb))
      go_ret
      exact ⟨rfl, HB99.out⟩
    · have y1 : decide (1 + less ≤ 536870912) = false := decide_eq_false hle
      have y0 : ¬ h1 = 0 := by rw [y1] at hone; simpa using hone
      have y2 : (h1 == 0) = false := by simpa using y0
      clear hone hle y0 hl3 ht
      go_wp2_with (first
        | (go_at_call 8; (with_reducible refine (HN.out _ _ Hk1.out).mono ?_); rintro e w2 ⟨s2, rfl, hs, hb⟩; have hb2 := hb; have Hv2 := Lib.hid (Hv1.out.below hb2); have HB2 := Lib.hid (below_add HB1.out hb2 HB1.out.size); have Hs2 := Lib.hid (hs.out); clear hs; clear hb hb2)
        | (go_at_call 9; (with_reducible refine (HF.out _ _ _ Hs2.out Hv2.out).mono ?_); rintro e w3 ⟨rfl, hb⟩; have hb3 := hb; have Hv3 := Lib.hid (Hv2.out.below hb3); have Hs3 := Lib.hid (Hs2.out.below hb3 (Nat.le_refl _)); have HB3 := Lib.hid (below_add HB2.out hb3 HB2.out.size); clear hb hb3)
        | (go_at_call 9; (with_reducible refine (HF3.out _ _ _ Hs3.out Hv3.out).mono ?_); rintro e w4 ⟨rfl, hb⟩; have hb4 := hb; have Hv4 := Lib.hid (Hv3.out.below hb4); have Hs4 := Lib.hid (Hs3.out.below hb4 (Nat.le_refl _)); have HB4 := Lib.hid (below_add HB3.out hb4 HB3.out.size); clear hb hb4)
        | (go_at_call 9; (with_reducible refine (HF2.out _ _ _ Hs4.out Hv4.out).mono ?_); rintro e w5 ⟨rfl, hb⟩; have hb5 := hb; have Hv5 := Lib.hid (Hv4.out.below hb5); have Hs5 := Lib.hid (Hs4.out.below hb5 (Nat.le_refl _)); have HB5 := Lib.hid (below_add HB4.out hb5 HB4.out.size); clear hb hb5)
        | (go_at_call 9; (with_reducible refine (HO.out _ _ Hs5.out).mono ?_); rintro e w6 ⟨rfl, hb⟩; have hb6 := hb; have Hv6 := Lib.hid (Hv5.out.below hb6); have Hs6 := Lib.hid (Hs5.out.below hb6 (Nat.le_refl _)); have HB6 := Lib.hid (below_add HB5.out hb6 HB5.out.size); clear hb hb6)
        | (go_at_call 7; (with_reducible refine (HK.out _).mono ?_); rintro e w99 ⟨rfl, hb⟩; have HB99 := Lib.hid (below_add HB6.out hb HB6.out.size); clear hb))
      go_ret
      exact ⟨rfl, HB99.out⟩
  have e3 : (f == 3) = false := by simpa using h3
  have e4 : (f == 4) = false := by simpa using h4
  have e5 : (f == 5) = false := by simpa using h5
  clear h0 h3 h4 h5
  by_cases hle : 1 + less ≤ 536870912
  · have y1 : decide (1 + less ≤ 536870912) = true := decide_eq_true hle
    have y0 : h1 = 0 := by rw [y1] at hone; simpa using hone
    subst y0
    clear hone hle hl3 ht
    go_wp2_with (first
      | (go_at_call 8; (with_reducible refine (HN.out _ _ Hk1.out).mono ?_); rintro e w2 ⟨s2, rfl, hs, hb⟩; have hb2 := hb; have Hv2 := Lib.hid (Hv1.out.below hb2); have HB2 := Lib.hid (below_add HB1.out hb2 HB1.out.size); have Hs2 := Lib.hid (hs.out); clear hs; clear hb hb2)
      | (go_at_call 9; (with_reducible refine (HF.out _ _ _ Hs2.out Hv2.out).mono ?_); rintro e w3 ⟨rfl, hb⟩; have hb3 := hb; have Hv3 := Lib.hid (Hv2.out.below hb3); have Hs3 := Lib.hid (Hs2.out.below hb3 (Nat.le_refl _)); have HB3 := Lib.hid (below_add HB2.out hb3 HB2.out.size); clear hb hb3)
      | (go_at_call 9; (with_reducible refine (HF2.out _ _ _ Hs3.out Hv3.out).mono ?_); rintro e w4 ⟨rfl, hb⟩; have hb4 := hb; have Hv4 := Lib.hid (Hv3.out.below hb4); have Hs4 := Lib.hid (Hs3.out.below hb4 (Nat.le_refl _)); have HB4 := Lib.hid (below_add HB3.out hb4 HB3.out.size); clear hb hb4)
      | (go_at_call 9; (with_reducible refine (HO.out _ _ Hs4.out).mono ?_); rintro e w5 ⟨rfl, hb⟩; have hb5 := hb; have Hv5 := Lib.hid (Hv4.out.below hb5); have Hs5 := Lib.hid (Hs4.out.below hb5 (Nat.le_refl _)); have HB5 := Lib.hid (below_add HB4.out hb5 HB4.out.size); clear hb hb5)
      | (go_at_call 7; (with_reducible refine (HK.out _).mono ?_); rintro e w99 ⟨rfl, hb⟩; have HB99 := Lib.hid (below_add HB5.out hb HB5.out.size); clear hb))
    go_ret
    exact ⟨rfl, HB99.out⟩
  · have y1 : decide (1 + less ≤ 536870912) = false := decide_eq_false hle
    have y0 : ¬ h1 = 0 := by rw [y1] at hone; simpa using hone
    have y2 : (h1 == 0) = false := by simpa using y0
    clear hone hle y0 hl3 ht
    go_wp2_with (first
      | (go_at_call 8; (with_reducible refine (HN.out _ _ Hk1.out).mono ?_); rintro e w2 ⟨s2, rfl, hs, hb⟩; have hb2 := hb; have Hv2 := Lib.hid (Hv1.out.below hb2); have HB2 := Lib.hid (below_add HB1.out hb2 HB1.out.size); have Hs2 := Lib.hid (hs.out); clear hs; clear hb hb2)
      | (go_at_call 9; (with_reducible refine (HF.out _ _ _ Hs2.out Hv2.out).mono ?_); rintro e w3 ⟨rfl, hb⟩; have hb3 := hb; have Hv3 := Lib.hid (Hv2.out.below hb3); have Hs3 := Lib.hid (Hs2.out.below hb3 (Nat.le_refl _)); have HB3 := Lib.hid (below_add HB2.out hb3 HB2.out.size); clear hb hb3)
      | (go_at_call 9; (with_reducible refine (HF2.out _ _ _ Hs3.out Hv3.out).mono ?_); rintro e w4 ⟨rfl, hb⟩; have hb4 := hb; have Hv4 := Lib.hid (Hv3.out.below hb4); have Hs4 := Lib.hid (Hs3.out.below hb4 (Nat.le_refl _)); have HB4 := Lib.hid (below_add HB3.out hb4 HB3.out.size); clear hb hb4)
      | (go_at_call 9; (with_reducible refine (HO.out _ _ Hs4.out).mono ?_); rintro e w5 ⟨rfl, hb⟩; have hb5 := hb; have Hv5 := Lib.hid (Hv4.out.below hb5); have Hs5 := Lib.hid (Hs4.out.below hb5 (Nat.le_refl _)); have HB5 := Lib.hid (below_add HB4.out hb5 HB4.out.size); clear hb hb5)
      | (go_at_call 7; (with_reducible refine (HK.out _).mono ?_); rintro e w99 ⟨rfl, hb⟩; have HB99 := Lib.hid (below_add HB5.out hb HB5.out.size); clear hb))
    go_ret
    exact ⟨rfl, HB99.out⟩
end Go.Proofs.Ytoiomijchchlnaa
