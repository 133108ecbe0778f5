
import Derived.Test.YtoiomijchchlnaaF12
/- F13: OpsFits -/
namespace Go.Proofs.Ytoiomijchchlnaa
open Go.RowKit
set_option linter.unusedVariables false

theorem fits_h (ks : List Key) (ls : List Opn) (n most f : Int) (h : fitsX ks ls n most = f) (hW : ∀ p ∈ ls, OpW p) (hn : n ≤ 9223372036854775807) (hm : most ≤ 9223372036854775807) (v u : Value) (W : World) (hs : Sch W v ks) (hv : Orow W u ls) :
    Calls Try.prog 9 #[v, u, .int .i64 n, .int .i64 most] W fun e w' => e = .returned (.int .i64 f) ∧ Below W.heap.size W w' := by
  rw [← h]; exact fits_any15 v u n most ks ls W hs hv hW hn hm
theorem takes_h (ls : List Opn) (t : Int) (h : sumK 3 ls = t) (u : Value) (W : World) (hv : Orow W u ls) :
    Calls Try.prog 10 #[u] W fun e w' => e = .returned (.int .i64 t) ∧ Below W.heap.size W w' := by rw [← h]; exact takes_any u ls W hv
theorem makes_h (ls : List Opn) (t : Int) (h : sumK 2 ls = t) (u : Value) (W : World) (hv : Orow W u ls) :
    Calls Try.prog 11 #[u] W fun e w' => e = .returned (.int .i64 t) ∧ Below W.heap.size W w' := by rw [← h]; exact makes_any u ls W hv
theorem may_h (ks : List Key) (ls : List Opn) (t : Int) (h : mayX ks ls = t) (hW : ∀ p ∈ ls, OpW p) (v u : Value) (W : World) (hs : Sch W v ks) (hv : Orow W u ls) :
    Calls Try.prog 12 #[v, u] W fun e w' => e = .returned (.int .i64 t) ∧ Below W.heap.size W w' := by rw [← h]; exact may_anyX v u ks ls W hs hv hW
theorem place_h (ks : List Key) (ls : List Opn) (t : Bool) (h : placeX ks ls = t) (hW : ∀ p ∈ ls, OpW p) (v u : Value) (W : World) (hs : Sch W v ks) (hv : Orow W u ls) :
    Calls Try.prog 13 #[v, u] W fun e w' => e = .returned (.bool t) ∧ Below W.heap.size W w' := by rw [← h]; exact inPlace_anyX v u ks ls W hs hv hW

set_option maxRecDepth 100000 in
set_option maxHeartbeats 4000000 in
theorem opsFits_walk (kv v : Value) (ks : List Key) (ls : List Opn) (n most more : Int) (w : World) (hk : Krow w kv ks) (yk : ∀ k ∈ ks, KeyW k) (hv : Orow w v ls) (yv : ∀ p ∈ ls, OpW p) (wn : (Lit.int .i64 n).wf = true) (wmost : (Lit.int .i64 most).wf = true) (wmore : (Lit.int .i64 more).wf = true) :
    Calls Try.prog 3 #[kv, v, .int .i64 n, .int .i64 most, .int .i64 more] w fun e w' => e = .returned (.bool true) ∧ Below w.heap.size w w' := by
  have HK := Lib.hid (fun w => known15_any w)
  have hlk := hk.len
  have hlv := hv.len
  obtain ⟨ka, kc, rfl⟩ := hk.shape
  obtain ⟨ua, uc, rfl⟩ := hv.shape
  have bn := Go.bounds_i64 wn
  have bmost := Go.bounds_i64 wmost
  have bmore := Go.bounds_i64 wmore
  have HG := Lib.hid (great_any ka ks.length kc ua uc ls hlk w hv)
  obtain ⟨ln, hln⟩ : ∃ n, ls.length = n := ⟨_, rfl⟩
  have HLN := Lib.hid hln
  rw [hln] at HG hlv hv ⊢
  have HB0 := Lib.hid (Below.refl w.heap.size w)
  have Hk0 := Lib.hid hk
  have Hv0 := Lib.hid hv
  clear hk hv hln wn wmost wmore
  go_enter Try.func3, Try.ntmps3
  go_wp2_with fail
  go_at_call 6
  refine HG.out.mono ?_
  rintro e w1 ⟨⟨g, rfl⟩, hb⟩
  have Hk1 := Lib.hid (Hk0.out.below hb (Nat.le_refl _))
  have Hv1 := Lib.hid (Hv0.out.below hb)
  have HB1 := Lib.hid hb
  clear hb HG Hk0 Hv0
  cases g
  rotate_left
  · go_wp2_with (first
      | (go_at_call 7; (with_reducible refine (HK.out _).mono ?_); rintro e w99 ⟨rfl, hb⟩; have HB99 := Lib.hid (below_add HB1.out hb HB1.out.size); clear hb))
    go_ret
    exact ⟨rfl, HB99.out⟩
  by_cases hc : n < 1
  · have d1 : decide (n < 1) = true := decide_eq_true hc
    clear hc
    go_wp2_with (first
      | (go_at_call 7; (with_reducible refine (HK.out _).mono ?_); rintro e w99 ⟨rfl, hb⟩; have HB99 := Lib.hid (below_add HB1.out hb HB1.out.size); clear hb))
    go_ret
    exact ⟨rfl, HB99.out⟩
  have d0 : decide (n < 1) = false := decide_eq_false hc
  have q0 := hc
  clear hc
  by_cases hc : 1073741824 < n
  · have d1 : decide (1073741824 < n) = true := decide_eq_true hc
    clear hc
    go_wp2_with (first
      | (go_at_call 7; (with_reducible refine (HK.out _).mono ?_); rintro e w99 ⟨rfl, hb⟩; have HB99 := Lib.hid (below_add HB1.out hb HB1.out.size); clear hb))
    go_ret
    exact ⟨rfl, HB99.out⟩
  have d1 : decide (1073741824 < n) = false := decide_eq_false hc
  have q1 := hc
  clear hc
  by_cases hc : most < n
  · have d1 : decide (most < n) = true := decide_eq_true hc
    clear hc
    go_wp2_with (first
      | (go_at_call 7; (with_reducible refine (HK.out _).mono ?_); rintro e w99 ⟨rfl, hb⟩; have HB99 := Lib.hid (below_add HB1.out hb HB1.out.size); clear hb))
    go_ret
    exact ⟨rfl, HB99.out⟩
  have d2 : decide (most < n) = false := decide_eq_false hc
  have q2 := hc
  clear hc
  by_cases hc : 1073741824 < most
  · have d1 : decide (1073741824 < most) = true := decide_eq_true hc
    clear hc
    go_wp2_with (first
      | (go_at_call 7; (with_reducible refine (HK.out _).mono ?_); rintro e w99 ⟨rfl, hb⟩; have HB99 := Lib.hid (below_add HB1.out hb HB1.out.size); clear hb))
    go_ret
    exact ⟨rfl, HB99.out⟩
  have d3 : decide (1073741824 < most) = false := decide_eq_false hc
  have q3 := hc
  clear hc
  by_cases hc : more < 0
  · have d1 : decide (more < 0) = true := decide_eq_true hc
    clear hc
    go_wp2_with (first
      | (go_at_call 7; (with_reducible refine (HK.out _).mono ?_); rintro e w99 ⟨rfl, hb⟩; have HB99 := Lib.hid (below_add HB1.out hb HB1.out.size); clear hb))
    go_ret
    exact ⟨rfl, HB99.out⟩
  have d4 : decide (more < 0) = false := decide_eq_false hc
  have q4 := hc
  clear hc
  by_cases hc : 1073741824 < more
  · have d1 : decide (1073741824 < more) = true := decide_eq_true hc
    clear hc
    go_wp2_with (first
      | (go_at_call 7; (with_reducible refine (HK.out _).mono ?_); rintro e w99 ⟨rfl, hb⟩; have HB99 := Lib.hid (below_add HB1.out hb HB1.out.size); clear hb))
    go_ret
    exact ⟨rfl, HB99.out⟩
  have d5 : decide (1073741824 < more) = false := decide_eq_false hc
  have q5 := hc
  clear hc
  by_cases hm : mayKs ks
  rotate_left
  · have HN := Lib.hid (newno_h ks yk hm)
    clear hm yk
    go_wp2_with (first
      | (go_at_call 8; (with_reducible refine (HN.out _ _ Hk1.out).mono ?_); rintro e w2 ⟨rfl, hb⟩; have hb2 := hb; have Hk2 := Lib.hid (Hk1.out.below hb2 (Nat.le_refl _)); have Hv2 := Lib.hid (Hv1.out.below hb2); have HB2 := Lib.hid (below_add HB1.out hb2 HB1.out.size); clear hb hb2)
      | (go_at_call 7; (with_reducible refine (HK.out _).mono ?_); rintro e w99 ⟨rfl, hb⟩; have HB99 := Lib.hid (below_add HB2.out hb HB2.out.size); clear hb))
    go_ret
    exact ⟨rfl, HB99.out⟩
  have HN := Lib.hid (new_h ks yk hm)
  have p1 : 1 ≤ n := by omega
  have p2 : n ≤ 1073741824 := by omega
  have p3 : n ≤ most := by omega
  have p4 : most ≤ 1073741824 := by omega
  have p5 : 0 ≤ more := by omega
  have p6 : more ≤ 1073741824 := by omega
  obtain ⟨f, hf⟩ : ∃ f, fitsX ks ls n most = f := ⟨_, rfl⟩
  obtain ⟨g, hg⟩ : ∃ f, fitsX ks ls n (most + more) = f := ⟨_, rfl⟩
  obtain ⟨h, hh⟩ : ∃ f, fitsX ks ls (n + more) (most + more) = f := ⟨_, rfl⟩
  have HF := Lib.hid (fits_h ks ls n most f hf yv (by omega) (by omega))
  have HG := Lib.hid (fits_h ks ls n (most + more) g hg yv (by omega) (by omega))
  have HH := Lib.hid (fits_h ks ls (n + more) (most + more) h hh yv (by omega) (by omega))
  have x1 : IntKind.i64.wrap (most + more) = most + more := by rw [IntKind.wrap_i64]; omega
  have x2 : IntKind.i64.wrap (n + more) = n + more := by rw [IntKind.wrap_i64]; omega
  clear yk hm yv q0 q1 q2 q3 q4 q5
  by_cases h0 : f = 0
  rotate_left
  · have ef : (f != 0) = true := by simpa using h0
    rcases fits_most (more := more) p1 p3 p5 (by rw [hf]; exact h0) with h1 | ⟨h1, h2⟩
    · rw [hf, hg] at h1
      subst h1
      clear hf hg hh h0
      go_wp2_with (first
        | (go_at_call 8; (with_reducible refine (HN.out _ _ Hk1.out).mono ?_); rintro e w2 ⟨s2, rfl, hs, hb⟩; have hb2 := hb; have Hv2 := Lib.hid (Hv1.out.below hb2); have HB2 := Lib.hid (below_add HB1.out hb2 HB1.out.size); have Hs2 := Lib.hid (hs.out); clear hs; clear hb hb2)
        | (go_at_call 9; (with_reducible refine (HF.out _ _ _ Hs2.out Hv2.out).mono ?_); rintro e w3 ⟨rfl, hb⟩; have hb3 := hb; have Hv3 := Lib.hid (Hv2.out.below hb3); have Hs3 := Lib.hid (Hs2.out.below hb3 (Nat.le_refl _)); have HB3 := Lib.hid (below_add HB2.out hb3 HB2.out.size); clear hb hb3)
        | (go_at_call 9; (with_reducible refine (HG.out _ _ _ Hs3.out Hv3.out).mono ?_); rintro e w4 ⟨rfl, hb⟩; have hb4 := hb; have Hv4 := Lib.hid (Hv3.out.below hb4); have Hs4 := Lib.hid (Hs3.out.below hb4 (Nat.le_refl _)); have HB4 := Lib.hid (below_add HB3.out hb4 HB3.out.size); clear hb hb4)
        | (go_at_call 9; (with_reducible refine (HH.out _ _ _ Hs4.out Hv4.out).mono ?_); rintro e w5 ⟨rfl, hb⟩; have hb5 := hb; have Hv5 := Lib.hid (Hv4.out.below hb5); have Hs5 := Lib.hid (Hs4.out.below hb5 (Nat.le_refl _)); have HB5 := Lib.hid (below_add HB4.out hb5 HB4.out.size); clear hb hb5)
        | (go_at_call 7; (with_reducible refine (HK.out _).mono ?_); rintro e w99 ⟨rfl, hb⟩; have HB99 := Lib.hid (below_add HB5.out hb HB5.out.size); clear hb))
      go_ret
      exact ⟨rfl, HB99.out⟩
    · rw [hf] at h1
      rw [hg] at h2
      subst h1 h2
      clear hf hg hh h0
      go_wp2_with (first
        | (go_at_call 8; (with_reducible refine (HN.out _ _ Hk1.out).mono ?_); rintro e w2 ⟨s2, rfl, hs, hb⟩; have hb2 := hb; have Hv2 := Lib.hid (Hv1.out.below hb2); have HB2 := Lib.hid (below_add HB1.out hb2 HB1.out.size); have Hs2 := Lib.hid (hs.out); clear hs; clear hb hb2)
        | (go_at_call 9; (with_reducible refine (HF.out _ _ _ Hs2.out Hv2.out).mono ?_); rintro e w3 ⟨rfl, hb⟩; have hb3 := hb; have Hv3 := Lib.hid (Hv2.out.below hb3); have Hs3 := Lib.hid (Hs2.out.below hb3 (Nat.le_refl _)); have HB3 := Lib.hid (below_add HB2.out hb3 HB2.out.size); clear hb hb3)
        | (go_at_call 9; (with_reducible refine (HG.out _ _ _ Hs3.out Hv3.out).mono ?_); rintro e w4 ⟨rfl, hb⟩; have hb4 := hb; have Hv4 := Lib.hid (Hv3.out.below hb4); have Hs4 := Lib.hid (Hs3.out.below hb4 (Nat.le_refl _)); have HB4 := Lib.hid (below_add HB3.out hb4 HB3.out.size); clear hb hb4)
        | (go_at_call 9; (with_reducible refine (HH.out _ _ _ Hs4.out Hv4.out).mono ?_); rintro e w5 ⟨rfl, hb⟩; have hb5 := hb; have Hv5 := Lib.hid (Hv4.out.below hb5); have Hs5 := Lib.hid (Hs4.out.below hb5 (Nat.le_refl _)); have HB5 := Lib.hid (below_add HB4.out hb5 HB4.out.size); clear hb hb5)
        | (go_at_call 7; (with_reducible refine (HK.out _).mono ?_); rintro e w99 ⟨rfl, hb⟩; have HB99 := Lib.hid (below_add HB5.out hb HB5.out.size); clear hb))
      go_ret
      exact ⟨rfl, HB99.out⟩
  subst h0
  obtain ⟨h1, h2, h3, h4⟩ := fits_then (more := more) p5 hf
  rw [hg] at h1
  rw [hh] at h2
  subst h1 h2
  obtain ⟨hm, -, -, h5, -⟩ := fits_0.1 hf
  obtain ⟨e3, e2, z3, z2, m3, m2⟩ := may_sums hm
  rw [← e3] at z3 m3
  rw [← e2] at z2 m2
  obtain ⟨t3, ht3⟩ : ∃ f, sumK 3 ls = f := ⟨_, rfl⟩
  obtain ⟨t2, ht2⟩ : ∃ f, sumK 2 ls = f := ⟨_, rfl⟩
  have HTK := Lib.hid (takes_h ls t3 ht3)
  have HMK := Lib.hid (makes_h ls t2 ht2)
  rw [ht3] at h3 h4 h5 z3 m3
  rw [ht2] at h3 h4 z2 m2
  have x3 : IntKind.i64.wrap (n - t3) = n - t3 := by rw [IntKind.wrap_i64]; omega
  have x4 : IntKind.i64.wrap (n - t3 + t2) = n - t3 + t2 := by rw [IntKind.wrap_i64]; omega
  have x5 : decide (1 ≤ n - t3 + t2) = true := decide_eq_true h3
  have x6 : decide (n - t3 + t2 ≤ most) = true := decide_eq_true h4
  clear hf hg hh hm e3 e2 ht3 ht2
  go_wp2_with (first
    | (go_at_call 8; (with_reducible refine (HN.out _ _ Hk1.out).mono ?_); rintro e w2 ⟨s2, rfl, hs, hb⟩; have hb2 := hb; have Hv2 := Lib.hid (Hv1.out.below hb2); have HB2 := Lib.hid (below_add HB1.out hb2 HB1.out.size); have Hs2 := Lib.hid (hs.out); clear hs; clear hb hb2)
    | (go_at_call 9; (with_reducible refine (HF.out _ _ _ Hs2.out Hv2.out).mono ?_); rintro e w3 ⟨rfl, hb⟩; have hb3 := hb; have Hv3 := Lib.hid (Hv2.out.below hb3); have Hs3 := Lib.hid (Hs2.out.below hb3 (Nat.le_refl _)); have HB3 := Lib.hid (below_add HB2.out hb3 HB2.out.size); clear hb hb3)
    | (go_at_call 9; (with_reducible refine (HG.out _ _ _ Hs3.out Hv3.out).mono ?_); rintro e w4 ⟨rfl, hb⟩; have hb4 := hb; have Hv4 := Lib.hid (Hv3.out.below hb4); have Hs4 := Lib.hid (Hs3.out.below hb4 (Nat.le_refl _)); have HB4 := Lib.hid (below_add HB3.out hb4 HB3.out.size); clear hb hb4)
    | (go_at_call 9; (with_reducible refine (HH.out _ _ _ Hs4.out Hv4.out).mono ?_); rintro e w5 ⟨rfl, hb⟩; have hb5 := hb; have Hv5 := Lib.hid (Hv4.out.below hb5); have Hs5 := Lib.hid (Hs4.out.below hb5 (Nat.le_refl _)); have HB5 := Lib.hid (below_add HB4.out hb5 HB4.out.size); clear hb hb5)
    | (go_at_call 10; (with_reducible refine (HTK.out _ _ Hv5.out).mono ?_); rintro e w6 ⟨rfl, hb⟩; have hb6 := hb; have Hv6 := Lib.hid (Hv5.out.below hb6); have Hs6 := Lib.hid (Hs5.out.below hb6 (Nat.le_refl _)); have HB6 := Lib.hid (below_add HB5.out hb6 HB5.out.size); clear hb hb6)
    | (go_at_call 11; (with_reducible refine (HMK.out _ _ Hv6.out).mono ?_); rintro e w7 ⟨rfl, hb⟩; have hb7 := hb; have Hv7 := Lib.hid (Hv6.out.below hb7); have Hs7 := Lib.hid (Hs6.out.below hb7 (Nat.le_refl _)); have HB7 := Lib.hid (below_add HB6.out hb7 HB6.out.size); clear hb hb7)
    | (go_at_call 7; (with_reducible refine (HK.out _).mono ?_); rintro e w99 ⟨rfl, hb⟩; have HB99 := Lib.hid (below_add HB7.out hb HB7.out.size); clear hb))
  go_ret
  exact ⟨rfl, HB99.out⟩
end Go.Proofs.Ytoiomijchchlnaa
