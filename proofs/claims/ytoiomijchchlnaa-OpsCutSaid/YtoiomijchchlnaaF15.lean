
import Derived.Test.YtoiomijchchlnaaF13
/- F15: OpsCut -/
namespace Go.Proofs.Ytoiomijchchlnaa
open Go.RowKit
set_option linter.unusedVariables false

theorem wrap_len {n : Nat} (h : n ≤ 9223372036854775807) : IntKind.u64.wrap (IntKind.i64.wrap ((n : Int) + 1)) = (n : Int) + 1 := by
  by_cases e : n = 9223372036854775807
  · subst e; decide
  · have e1 : IntKind.i64.wrap ((n : Int) + 1) = (n : Int) + 1 := by rw [IntKind.wrap_i64]; omega
    rw [e1, IntKind.wrap_u64]; omega
theorem wrap_len2 {n : Nat} (h : n ≤ 9223372036854775807) : IntKind.u64.wrap (RowKit.wrap64 ((n : Int) + 1)) = (n : Int) + 1 := by
  rw [show RowKit.wrap64 ((n : Int) + 1) = IntKind.i64.wrap ((n : Int) + 1) from (Go.IntWalk.i64_left _).symm]; exact wrap_len h
theorem wrap_k {k : Nat} (h : k ≤ 9223372036854775807) : RowKit.wrap64 (k : Int) = (k : Int) := by
  rw [show RowKit.wrap64 (k : Int) = IntKind.i64.wrap (k : Int) from (Go.IntWalk.i64_left _).symm, IntKind.wrap_i64]; omega

set_option maxRecDepth 100000 in
set_option maxHeartbeats 4000000 in
theorem opsCut_walk (kv v : Value) (ks : List Key) (ls : List Opn) (cut : Int) (w : World) (hk : Krow w kv ks) (yk : ∀ k ∈ ks, KeyW k) (hv : Orow w v ls) (yv : ∀ p ∈ ls, OpW p) (wcut : (Lit.int .i64 cut).wf = true) :
    Calls Try.prog 4 #[kv, v, .int .i64 cut] w fun e w' => e = .returned (.bool true) ∧ Below w.heap.size w w' := by
  have HK := Lib.hid (fun w => known15_any w)
  have hlk := hk.len
  have hlv := hv.len
  obtain ⟨ka, kc, rfl⟩ := hk.shape
  obtain ⟨ua, uc, rfl⟩ := hv.shape
  have bcut := Go.bounds_i64 wcut
  have HG := Lib.hid (great_any ka ks.length kc ua uc ls hlk w hv)
  obtain ⟨ln, hln⟩ : ∃ n, ls.length = n := ⟨_, rfl⟩
  have HLN := Lib.hid hln
  rw [hln] at HG hlv hv ⊢
  have HB0 := Lib.hid (Below.refl w.heap.size w)
  have Hk0 := Lib.hid hk
  have Hv0 := Lib.hid hv
  clear hk hv hln wcut
  go_enter Try.func4, Try.ntmps4
  go_wp2_with fail
  go_at_call 6
  refine HG.out.mono ?_
  rintro e w1 ⟨⟨g, rfl⟩, hb⟩
  have Hk1 := Lib.hid (Hk0.out.below hb (Nat.le_refl _))
  have Hv1 := Lib.hid (Hv0.out.below hb)
  have HB1 := Lib.hid hb
  clear hb HG Hk0 Hv0
  cases g
  rotate_left
  · go_wp2_with (first
      | (go_at_call 7; (with_reducible refine (HK.out _).mono ?_); rintro e w99 ⟨rfl, hb⟩; have HB99 := Lib.hid (below_add HB1.out hb HB1.out.size); clear hb))
    go_ret
    exact ⟨rfl, HB99.out⟩
  by_cases hm : mayKs ks
  rotate_left
  · have HN := Lib.hid (newno_h ks yk hm)
    clear hm yk
    go_wp2_with (first
      | (go_at_call 8; (with_reducible refine (HN.out _ _ Hk1.out).mono ?_); rintro e w2 ⟨rfl, hb⟩; have hb2 := hb; have Hk2 := Lib.hid (Hk1.out.below hb2 (Nat.le_refl _)); have Hv2 := Lib.hid (Hv1.out.below hb2); have HB2 := Lib.hid (below_add HB1.out hb2 HB1.out.size); clear hb hb2)
      | (go_at_call 7; (with_reducible refine (HK.out _).mono ?_); rintro e w99 ⟨rfl, hb⟩; have HB99 := Lib.hid (below_add HB2.out hb HB2.out.size); clear hb))
    go_ret
    exact ⟨rfl, HB99.out⟩
  have HN := Lib.hid (new_h ks yk hm)
  obtain ⟨f, hf⟩ : ∃ f, mayX ks ls = f := ⟨_, rfl⟩
  have HF := Lib.hid (may_h ks ls f hf yv)
  by_cases h0 : f = 0
  rotate_left
  · have ef : (f != 0) = true := by simpa using h0
    clear hf h0 yk yv hm
    go_wp2_with (first
      | (go_at_call 8; (with_reducible refine (HN.out _ _ Hk1.out).mono ?_); rintro e w2 ⟨s2, rfl, hs, hb⟩; have hb2 := hb; have Hv2 := Lib.hid (Hv1.out.below hb2); have HB2 := Lib.hid (below_add HB1.out hb2 HB1.out.size); have Hs2 := Lib.hid (hs.out); clear hs; clear hb hb2)
      | (go_at_call 12; (with_reducible refine (HF.out _ _ _ Hs2.out Hv2.out).mono ?_); rintro e w3 ⟨rfl, hb⟩; have hb3 := hb; have Hv3 := Lib.hid (Hv2.out.below hb3); have Hs3 := Lib.hid (Hs2.out.below hb3 (Nat.le_refl _)); have HB3 := Lib.hid (below_add HB2.out hb3 HB2.out.size); clear hb hb3)
      | (go_at_call 7; (with_reducible refine (HK.out _).mono ?_); rintro e w99 ⟨rfl, hb⟩; have HB99 := Lib.hid (below_add HB3.out hb HB3.out.size); clear hb))
    go_ret
    exact ⟨rfl, HB99.out⟩
  subst h0
  obtain ⟨c, hc⟩ : ∃ c, IntKind.u64.wrap cut = c := ⟨_, rfl⟩
  have hc0 : 0 ≤ c ∧ c < 18446744073709551616 := by rw [← hc, IntKind.wrap_u64]; omega
  obtain ⟨k, hk⟩ : ∃ k : Nat, c % ((ln : Int) + 1) = (k : Int) := ⟨_, (Int.toNat_of_nonneg (Int.emod_nonneg c (show (ln : Int) + 1 ≠ 0 by omega))).symm⟩
  have hkl : k ≤ ln := by have h := Int.emod_lt_of_pos c (show (0 : Int) < (ln : Int) + 1 by omega); rw [hk] at h; omega
  have hk2 : c.tmod ((ln : Int) + 1) = (k : Int) := by rw [Int.tmod_eq_emod_of_nonneg hc0.1]; exact hk
  have y1 := wrap_len2 hlv
  have y2 : RowKit.wrap64 (c % ((ln : Int) + 1)) = (k : Int) := by rw [hk]; exact wrap_k (by omega)
  have y3 : RowKit.wrap64 (c.tmod ((ln : Int) + 1)) = (k : Int) := by rw [hk2]; exact wrap_k (by omega)
  have x3 : ((ln : Int) + 1 == 0) = false := by simp; omega
  have hcap : ln ≤ uc := by
    rcases Hv1.out with ⟨ss, h1, h2, -⟩
    rcases h1 with ⟨_, _, h, hx, _⟩ | ⟨_, _, _, h, _, h3, _⟩
    · injection h with _ h4 _; omega
    · injection h with _ h4 h5; omega
  have q1 : (k : Int) ≤ (uc : Int) := by omega
  have q2 : (k : Int) ≤ (ln : Int) := by omega
  obtain ⟨pa0, pb0, ps3, ps2⟩ := may_parts hf k
  have hpp := place_parts ks ls k
  have ya : ∀ p ∈ ls.take k, OpW p := fun p hp => yv p (List.mem_of_mem_take hp)
  have yb : ∀ p ∈ ls.drop k, OpW p := fun p hp => yv p (List.mem_of_mem_drop hp)
  obtain ⟨-, -, -, -, m3, m2⟩ := may_sums hf
  obtain ⟨e3, e2, -, -, -, -⟩ := may_sums hf
  rw [← e3, ← ps3] at m3
  rw [← e2, ← ps2] at m2
  have r1 := (sumK_rng 3 (ls.take k)).1
  have r2 := (sumK_rng 3 (ls.drop k)).1
  have r3 := (sumK_rng 2 (ls.take k)).1
  have r4 := (sumK_rng 2 (ls.drop k)).1
  obtain ⟨t3a, et3a⟩ : ∃ f, sumK 3 (ls.take k) = f := ⟨_, rfl⟩
  obtain ⟨t3b, et3b⟩ : ∃ f, sumK 3 (ls.drop k) = f := ⟨_, rfl⟩
  obtain ⟨t2a, et2a⟩ : ∃ f, sumK 2 (ls.take k) = f := ⟨_, rfl⟩
  obtain ⟨t2b, et2b⟩ : ∃ f, sumK 2 (ls.drop k) = f := ⟨_, rfl⟩
  obtain ⟨pa, epa⟩ : ∃ f, placeX ks (ls.take k) = f := ⟨_, rfl⟩
  obtain ⟨pb, epb⟩ : ∃ f, placeX ks (ls.drop k) = f := ⟨_, rfl⟩
  rw [et3a, et3b] at ps3 m3
  rw [et2a, et2b] at ps2 m2
  rw [et3a] at r1
  rw [et3b] at r2
  rw [et2a] at r3
  rw [et2b] at r4
  rw [epa, epb] at hpp
  have HMa := Lib.hid (may_h ks (ls.take k) 0 pa0 ya)
  have HMb := Lib.hid (may_h ks (ls.drop k) 0 pb0 yb)
  have HTa := Lib.hid (takes_h (ls.take k) t3a et3a)
  have HTb := Lib.hid (takes_h (ls.drop k) t3b et3b)
  have HTx := Lib.hid (takes_h ls (t3a + t3b) ps3.symm)
  have HKa := Lib.hid (makes_h (ls.take k) t2a et2a)
  have HKb := Lib.hid (makes_h (ls.drop k) t2b et2b)
  have HKx := Lib.hid (makes_h ls (t2a + t2b) ps2.symm)
  have HPa := Lib.hid (place_h ks (ls.take k) pa epa ya)
  have HPb := Lib.hid (place_h ks (ls.drop k) pb epb yb)
  have HPx := Lib.hid (place_h ks ls (pa && pb) hpp yv)
  have s3 : IntKind.i64.wrap (t3a + t3b) = t3a + t3b := by rw [IntKind.wrap_i64]; omega
  have s2 : IntKind.i64.wrap (t2a + t2b) = t2a + t2b := by rw [IntKind.wrap_i64]; omega
  clear pa0 pb0 ps3 ps2 hpp ya yb e3 e2 et3a et3b et2a et2b epa epb yv
  clear bcut hc0 hk hk2 hcap hf yk hm
  go_wp2_with (first
    | (go_at_call 8; (with_reducible refine (HN.out _ _ Hk1.out).mono ?_); rintro e w2 ⟨s2, rfl, hs, hb⟩; have hb2 := hb; have Hv2 := Lib.hid (Hv1.out.below hb2); have HB2 := Lib.hid (below_add HB1.out hb2 HB1.out.size); have Hs2 := Lib.hid (hs.out); clear hs; clear hb hb2)
    | (go_at_call 12; (with_reducible refine (HF.out _ _ _ Hs2.out Hv2.out).mono ?_); rintro e w3 ⟨rfl, hb⟩; have hb3 := hb; have Hv3 := Lib.hid (Hv2.out.below hb3); have Hs3 := Lib.hid (Hs2.out.below hb3 (Nat.le_refl _)); have HB3 := Lib.hid (below_add HB2.out hb3 HB2.out.size); clear hb hb3))
  by_cases hck : uc = k
  · obtain rfl : k = uc := hck.symm
    have hlen := HLN.out
    have Ha3 := Lib.hid (Orow.head Hv3.out (hi := k) (by omega))
    have hb3 := (Orow.tail Hv3.out (lo := k) (by omega))
    rw [hlen] at hb3
    have Hb3 := Lib.hid (hb3.1 rfl)
    clear hb3 hlen
    go_quiet (fail)
    have HD := Lib.hid (blw_drewN (Below.refl w3.heap.size w3) nq)
    have Hs4 := Lib.hid (Hs3.out.below HD.out (Nat.le_refl _))
    have Hv4 := Lib.hid (Hv3.out.below HD.out)
    have Ha4 := Lib.hid (Ha3.out.below HD.out)
    have Hb4 := Lib.hid (Hb3.out.below HD.out)
    have HB4 := Lib.hid (below_add HB3.out HD.out HB3.out.size)
    clear Hs3 Hv3 Ha3 Hb3 HB3 HD
    cases pa
    · go_wp2_with (first
        | (go_at_call 12; (with_reducible refine (HMa.out _ _ _ Hs4.out Ha4.out).mono ?_); rintro e w5 ⟨rfl, hb⟩; have hb5 := hb; have Hs5 := Lib.hid (Hs4.out.below hb5 (Nat.le_refl _)); have Hv5 := Lib.hid (Hv4.out.below hb5); have Ha5 := Lib.hid (Ha4.out.below hb5); have Hb5 := Lib.hid (Hb4.out.below hb5); have HB5 := Lib.hid (below_add HB4.out hb5 HB4.out.size); clear hb hb5)
        | (go_at_call 12; (with_reducible refine (HMb.out _ _ _ Hs5.out Hb5.out).mono ?_); rintro e w6 ⟨rfl, hb⟩; have hb6 := hb; have Hs6 := Lib.hid (Hs5.out.below hb6 (Nat.le_refl _)); have Hv6 := Lib.hid (Hv5.out.below hb6); have Ha6 := Lib.hid (Ha5.out.below hb6); have Hb6 := Lib.hid (Hb5.out.below hb6); have HB6 := Lib.hid (below_add HB5.out hb6 HB5.out.size); clear hb hb6)
        | (go_at_call 10; (with_reducible refine (HTa.out _ _ Ha6.out).mono ?_); rintro e w7 ⟨rfl, hb⟩; have hb7 := hb; have Hs7 := Lib.hid (Hs6.out.below hb7 (Nat.le_refl _)); have Hv7 := Lib.hid (Hv6.out.below hb7); have Ha7 := Lib.hid (Ha6.out.below hb7); have Hb7 := Lib.hid (Hb6.out.below hb7); have HB7 := Lib.hid (below_add HB6.out hb7 HB6.out.size); clear hb hb7)
        | (go_at_call 10; (with_reducible refine (HTb.out _ _ Hb7.out).mono ?_); rintro e w8 ⟨rfl, hb⟩; have hb8 := hb; have Hs8 := Lib.hid (Hs7.out.below hb8 (Nat.le_refl _)); have Hv8 := Lib.hid (Hv7.out.below hb8); have Ha8 := Lib.hid (Ha7.out.below hb8); have Hb8 := Lib.hid (Hb7.out.below hb8); have HB8 := Lib.hid (below_add HB7.out hb8 HB7.out.size); clear hb hb8)
        | (go_at_call 10; (with_reducible refine (HTx.out _ _ Hv8.out).mono ?_); rintro e w9 ⟨rfl, hb⟩; have hb9 := hb; have Hs9 := Lib.hid (Hs8.out.below hb9 (Nat.le_refl _)); have Hv9 := Lib.hid (Hv8.out.below hb9); have Ha9 := Lib.hid (Ha8.out.below hb9); have Hb9 := Lib.hid (Hb8.out.below hb9); have HB9 := Lib.hid (below_add HB8.out hb9 HB8.out.size); clear hb hb9)
        | (go_at_call 11; (with_reducible refine (HKa.out _ _ Ha9.out).mono ?_); rintro e w10 ⟨rfl, hb⟩; have hb10 := hb; have Hs10 := Lib.hid (Hs9.out.below hb10 (Nat.le_refl _)); have Hv10 := Lib.hid (Hv9.out.below hb10); have Ha10 := Lib.hid (Ha9.out.below hb10); have Hb10 := Lib.hid (Hb9.out.below hb10); have HB10 := Lib.hid (below_add HB9.out hb10 HB9.out.size); clear hb hb10)
        | (go_at_call 11; (with_reducible refine (HKb.out _ _ Hb10.out).mono ?_); rintro e w11 ⟨rfl, hb⟩; have hb11 := hb; have Hs11 := Lib.hid (Hs10.out.below hb11 (Nat.le_refl _)); have Hv11 := Lib.hid (Hv10.out.below hb11); have Ha11 := Lib.hid (Ha10.out.below hb11); have Hb11 := Lib.hid (Hb10.out.below hb11); have HB11 := Lib.hid (below_add HB10.out hb11 HB10.out.size); clear hb hb11)
        | (go_at_call 11; (with_reducible refine (HKx.out _ _ Hv11.out).mono ?_); rintro e w12 ⟨rfl, hb⟩; have hb12 := hb; have Hs12 := Lib.hid (Hs11.out.below hb12 (Nat.le_refl _)); have Hv12 := Lib.hid (Hv11.out.below hb12); have Ha12 := Lib.hid (Ha11.out.below hb12); have Hb12 := Lib.hid (Hb11.out.below hb12); have HB12 := Lib.hid (below_add HB11.out hb12 HB11.out.size); clear hb hb12)
        | (go_at_call 13; (with_reducible refine (HPx.out _ _ _ Hs12.out Hv12.out).mono ?_); rintro e w13 ⟨rfl, hb⟩; have hb13 := hb; have Hs13 := Lib.hid (Hs12.out.below hb13 (Nat.le_refl _)); have Hv13 := Lib.hid (Hv12.out.below hb13); have Ha13 := Lib.hid (Ha12.out.below hb13); have Hb13 := Lib.hid (Hb12.out.below hb13); have HB13 := Lib.hid (below_add HB12.out hb13 HB12.out.size); clear hb hb13)
        | (go_at_call 13; (with_reducible refine (HPa.out _ _ _ Hs13.out Ha13.out).mono ?_); rintro e w14 ⟨rfl, hb⟩; have hb14 := hb; have Hs14 := Lib.hid (Hs13.out.below hb14 (Nat.le_refl _)); have Hv14 := Lib.hid (Hv13.out.below hb14); have Ha14 := Lib.hid (Ha13.out.below hb14); have Hb14 := Lib.hid (Hb13.out.below hb14); have HB14 := Lib.hid (below_add HB13.out hb14 HB13.out.size); clear hb hb14)
        | (go_at_call 7; (with_reducible refine (HK.out _).mono ?_); rintro e w99 ⟨rfl, hb⟩; have HB99 := Lib.hid (below_add HB14.out hb HB14.out.size); clear hb))
      go_ret
      exact ⟨rfl, HB99.out⟩
    · cases pb
      · go_wp2_with (first
          | (go_at_call 12; (with_reducible refine (HMa.out _ _ _ Hs4.out Ha4.out).mono ?_); rintro e w5 ⟨rfl, hb⟩; have hb5 := hb; have Hs5 := Lib.hid (Hs4.out.below hb5 (Nat.le_refl _)); have Hv5 := Lib.hid (Hv4.out.below hb5); have Ha5 := Lib.hid (Ha4.out.below hb5); have Hb5 := Lib.hid (Hb4.out.below hb5); have HB5 := Lib.hid (below_add HB4.out hb5 HB4.out.size); clear hb hb5)
          | (go_at_call 12; (with_reducible refine (HMb.out _ _ _ Hs5.out Hb5.out).mono ?_); rintro e w6 ⟨rfl, hb⟩; have hb6 := hb; have Hs6 := Lib.hid (Hs5.out.below hb6 (Nat.le_refl _)); have Hv6 := Lib.hid (Hv5.out.below hb6); have Ha6 := Lib.hid (Ha5.out.below hb6); have Hb6 := Lib.hid (Hb5.out.below hb6); have HB6 := Lib.hid (below_add HB5.out hb6 HB5.out.size); clear hb hb6)
          | (go_at_call 10; (with_reducible refine (HTa.out _ _ Ha6.out).mono ?_); rintro e w7 ⟨rfl, hb⟩; have hb7 := hb; have Hs7 := Lib.hid (Hs6.out.below hb7 (Nat.le_refl _)); have Hv7 := Lib.hid (Hv6.out.below hb7); have Ha7 := Lib.hid (Ha6.out.below hb7); have Hb7 := Lib.hid (Hb6.out.below hb7); have HB7 := Lib.hid (below_add HB6.out hb7 HB6.out.size); clear hb hb7)
          | (go_at_call 10; (with_reducible refine (HTb.out _ _ Hb7.out).mono ?_); rintro e w8 ⟨rfl, hb⟩; have hb8 := hb; have Hs8 := Lib.hid (Hs7.out.below hb8 (Nat.le_refl _)); have Hv8 := Lib.hid (Hv7.out.below hb8); have Ha8 := Lib.hid (Ha7.out.below hb8); have Hb8 := Lib.hid (Hb7.out.below hb8); have HB8 := Lib.hid (below_add HB7.out hb8 HB7.out.size); clear hb hb8)
          | (go_at_call 10; (with_reducible refine (HTx.out _ _ Hv8.out).mono ?_); rintro e w9 ⟨rfl, hb⟩; have hb9 := hb; have Hs9 := Lib.hid (Hs8.out.below hb9 (Nat.le_refl _)); have Hv9 := Lib.hid (Hv8.out.below hb9); have Ha9 := Lib.hid (Ha8.out.below hb9); have Hb9 := Lib.hid (Hb8.out.below hb9); have HB9 := Lib.hid (below_add HB8.out hb9 HB8.out.size); clear hb hb9)
          | (go_at_call 11; (with_reducible refine (HKa.out _ _ Ha9.out).mono ?_); rintro e w10 ⟨rfl, hb⟩; have hb10 := hb; have Hs10 := Lib.hid (Hs9.out.below hb10 (Nat.le_refl _)); have Hv10 := Lib.hid (Hv9.out.below hb10); have Ha10 := Lib.hid (Ha9.out.below hb10); have Hb10 := Lib.hid (Hb9.out.below hb10); have HB10 := Lib.hid (below_add HB9.out hb10 HB9.out.size); clear hb hb10)
          | (go_at_call 11; (with_reducible refine (HKb.out _ _ Hb10.out).mono ?_); rintro e w11 ⟨rfl, hb⟩; have hb11 := hb; have Hs11 := Lib.hid (Hs10.out.below hb11 (Nat.le_refl _)); have Hv11 := Lib.hid (Hv10.out.below hb11); have Ha11 := Lib.hid (Ha10.out.below hb11); have Hb11 := Lib.hid (Hb10.out.below hb11); have HB11 := Lib.hid (below_add HB10.out hb11 HB10.out.size); clear hb hb11)
          | (go_at_call 11; (with_reducible refine (HKx.out _ _ Hv11.out).mono ?_); rintro e w12 ⟨rfl, hb⟩; have hb12 := hb; have Hs12 := Lib.hid (Hs11.out.below hb12 (Nat.le_refl _)); have Hv12 := Lib.hid (Hv11.out.below hb12); have Ha12 := Lib.hid (Ha11.out.below hb12); have Hb12 := Lib.hid (Hb11.out.below hb12); have HB12 := Lib.hid (below_add HB11.out hb12 HB11.out.size); clear hb hb12)
          | (go_at_call 13; (with_reducible refine (HPx.out _ _ _ Hs12.out Hv12.out).mono ?_); rintro e w13 ⟨rfl, hb⟩; have hb13 := hb; have Hs13 := Lib.hid (Hs12.out.below hb13 (Nat.le_refl _)); have Hv13 := Lib.hid (Hv12.out.below hb13); have Ha13 := Lib.hid (Ha12.out.below hb13); have Hb13 := Lib.hid (Hb12.out.below hb13); have HB13 := Lib.hid (below_add HB12.out hb13 HB12.out.size); clear hb hb13)
          | (go_at_call 13; (with_reducible refine (HPa.out _ _ _ Hs13.out Ha13.out).mono ?_); rintro e w14 ⟨rfl, hb⟩; have hb14 := hb; have Hs14 := Lib.hid (Hs13.out.below hb14 (Nat.le_refl _)); have Hv14 := Lib.hid (Hv13.out.below hb14); have Ha14 := Lib.hid (Ha13.out.below hb14); have Hb14 := Lib.hid (Hb13.out.below hb14); have HB14 := Lib.hid (below_add HB13.out hb14 HB13.out.size); clear hb hb14)
          | (go_at_call 13; (with_reducible refine (HPb.out _ _ _ Hs14.out Hb14.out).mono ?_); rintro e w15 ⟨rfl, hb⟩; have hb15 := hb; have Hs15 := Lib.hid (Hs14.out.below hb15 (Nat.le_refl _)); have Hv15 := Lib.hid (Hv14.out.below hb15); have Ha15 := Lib.hid (Ha14.out.below hb15); have Hb15 := Lib.hid (Hb14.out.below hb15); have HB15 := Lib.hid (below_add HB14.out hb15 HB14.out.size); clear hb hb15)
          | (go_at_call 7; (with_reducible refine (HK.out _).mono ?_); rintro e w99 ⟨rfl, hb⟩; have HB99 := Lib.hid (below_add HB15.out hb HB15.out.size); clear hb))
        go_ret
        exact ⟨rfl, HB99.out⟩
      · go_wp2_with (first
          | (go_at_call 12; (with_reducible refine (HMa.out _ _ _ Hs4.out Ha4.out).mono ?_); rintro e w5 ⟨rfl, hb⟩; have hb5 := hb; have Hs5 := Lib.hid (Hs4.out.below hb5 (Nat.le_refl _)); have Hv5 := Lib.hid (Hv4.out.below hb5); have Ha5 := Lib.hid (Ha4.out.below hb5); have Hb5 := Lib.hid (Hb4.out.below hb5); have HB5 := Lib.hid (below_add HB4.out hb5 HB4.out.size); clear hb hb5)
          | (go_at_call 12; (with_reducible refine (HMb.out _ _ _ Hs5.out Hb5.out).mono ?_); rintro e w6 ⟨rfl, hb⟩; have hb6 := hb; have Hs6 := Lib.hid (Hs5.out.below hb6 (Nat.le_refl _)); have Hv6 := Lib.hid (Hv5.out.below hb6); have Ha6 := Lib.hid (Ha5.out.below hb6); have Hb6 := Lib.hid (Hb5.out.below hb6); have HB6 := Lib.hid (below_add HB5.out hb6 HB5.out.size); clear hb hb6)
          | (go_at_call 10; (with_reducible refine (HTa.out _ _ Ha6.out).mono ?_); rintro e w7 ⟨rfl, hb⟩; have hb7 := hb; have Hs7 := Lib.hid (Hs6.out.below hb7 (Nat.le_refl _)); have Hv7 := Lib.hid (Hv6.out.below hb7); have Ha7 := Lib.hid (Ha6.out.below hb7); have Hb7 := Lib.hid (Hb6.out.below hb7); have HB7 := Lib.hid (below_add HB6.out hb7 HB6.out.size); clear hb hb7)
          | (go_at_call 10; (with_reducible refine (HTb.out _ _ Hb7.out).mono ?_); rintro e w8 ⟨rfl, hb⟩; have hb8 := hb; have Hs8 := Lib.hid (Hs7.out.below hb8 (Nat.le_refl _)); have Hv8 := Lib.hid (Hv7.out.below hb8); have Ha8 := Lib.hid (Ha7.out.below hb8); have Hb8 := Lib.hid (Hb7.out.below hb8); have HB8 := Lib.hid (below_add HB7.out hb8 HB7.out.size); clear hb hb8)
          | (go_at_call 10; (with_reducible refine (HTx.out _ _ Hv8.out).mono ?_); rintro e w9 ⟨rfl, hb⟩; have hb9 := hb; have Hs9 := Lib.hid (Hs8.out.below hb9 (Nat.le_refl _)); have Hv9 := Lib.hid (Hv8.out.below hb9); have Ha9 := Lib.hid (Ha8.out.below hb9); have Hb9 := Lib.hid (Hb8.out.below hb9); have HB9 := Lib.hid (below_add HB8.out hb9 HB8.out.size); clear hb hb9)
          | (go_at_call 11; (with_reducible refine (HKa.out _ _ Ha9.out).mono ?_); rintro e w10 ⟨rfl, hb⟩; have hb10 := hb; have Hs10 := Lib.hid (Hs9.out.below hb10 (Nat.le_refl _)); have Hv10 := Lib.hid (Hv9.out.below hb10); have Ha10 := Lib.hid (Ha9.out.below hb10); have Hb10 := Lib.hid (Hb9.out.below hb10); have HB10 := Lib.hid (below_add HB9.out hb10 HB9.out.size); clear hb hb10)
          | (go_at_call 11; (with_reducible refine (HKb.out _ _ Hb10.out).mono ?_); rintro e w11 ⟨rfl, hb⟩; have hb11 := hb; have Hs11 := Lib.hid (Hs10.out.below hb11 (Nat.le_refl _)); have Hv11 := Lib.hid (Hv10.out.below hb11); have Ha11 := Lib.hid (Ha10.out.below hb11); have Hb11 := Lib.hid (Hb10.out.below hb11); have HB11 := Lib.hid (below_add HB10.out hb11 HB10.out.size); clear hb hb11)
          | (go_at_call 11; (with_reducible refine (HKx.out _ _ Hv11.out).mono ?_); rintro e w12 ⟨rfl, hb⟩; have hb12 := hb; have Hs12 := Lib.hid (Hs11.out.below hb12 (Nat.le_refl _)); have Hv12 := Lib.hid (Hv11.out.below hb12); have Ha12 := Lib.hid (Ha11.out.below hb12); have Hb12 := Lib.hid (Hb11.out.below hb12); have HB12 := Lib.hid (below_add HB11.out hb12 HB11.out.size); clear hb hb12)
          | (go_at_call 13; (with_reducible refine (HPx.out _ _ _ Hs12.out Hv12.out).mono ?_); rintro e w13 ⟨rfl, hb⟩; have hb13 := hb; have Hs13 := Lib.hid (Hs12.out.below hb13 (Nat.le_refl _)); have Hv13 := Lib.hid (Hv12.out.below hb13); have Ha13 := Lib.hid (Ha12.out.below hb13); have Hb13 := Lib.hid (Hb12.out.below hb13); have HB13 := Lib.hid (below_add HB12.out hb13 HB12.out.size); clear hb hb13)
          | (go_at_call 13; (with_reducible refine (HPa.out _ _ _ Hs13.out Ha13.out).mono ?_); rintro e w14 ⟨rfl, hb⟩; have hb14 := hb; have Hs14 := Lib.hid (Hs13.out.below hb14 (Nat.le_refl _)); have Hv14 := Lib.hid (Hv13.out.below hb14); have Ha14 := Lib.hid (Ha13.out.below hb14); have Hb14 := Lib.hid (Hb13.out.below hb14); have HB14 := Lib.hid (below_add HB13.out hb14 HB13.out.size); clear hb hb14)
          | (go_at_call 13; (with_reducible refine (HPb.out _ _ _ Hs14.out Hb14.out).mono ?_); rintro e w15 ⟨rfl, hb⟩; have hb15 := hb; have Hs15 := Lib.hid (Hs14.out.below hb15 (Nat.le_refl _)); have Hv15 := Lib.hid (Hv14.out.below hb15); have Ha15 := Lib.hid (Ha14.out.below hb15); have Hb15 := Lib.hid (Hb14.out.below hb15); have HB15 := Lib.hid (below_add HB14.out hb15 HB14.out.size); clear hb hb15)
          | (go_at_call 7; (with_reducible refine (HK.out _).mono ?_); rintro e w99 ⟨rfl, hb⟩; have HB99 := Lib.hid (below_add HB15.out hb HB15.out.size); clear hb))
        go_ret
        exact ⟨rfl, HB99.out⟩
  · have hck2 := hck
    have hlen := HLN.out
    have Ha3 := Lib.hid (Orow.head Hv3.out (hi := k) (by omega))
    have hb3 := (Orow.tail Hv3.out (lo := k) (by omega))
    rw [hlen] at hb3
    have Hb3 := Lib.hid (hb3.2 hck)
    clear hb3 hlen
    go_quiet (fail)
    have HD := Lib.hid (blw_drewN (Below.refl w3.heap.size w3) nq)
    have Hs4 := Lib.hid (Hs3.out.below HD.out (Nat.le_refl _))
    have Hv4 := Lib.hid (Hv3.out.below HD.out)
    have Ha4 := Lib.hid (Ha3.out.below HD.out)
    have Hb4 := Lib.hid (Hb3.out.below HD.out)
    have HB4 := Lib.hid (below_add HB3.out HD.out HB3.out.size)
    clear Hs3 Hv3 Ha3 Hb3 HB3 HD
    cases pa
    · go_wp2_with (first
        | (go_at_call 12; (with_reducible refine (HMa.out _ _ _ Hs4.out Ha4.out).mono ?_); rintro e w5 ⟨rfl, hb⟩; have hb5 := hb; have Hs5 := Lib.hid (Hs4.out.below hb5 (Nat.le_refl _)); have Hv5 := Lib.hid (Hv4.out.below hb5); have Ha5 := Lib.hid (Ha4.out.below hb5); have Hb5 := Lib.hid (Hb4.out.below hb5); have HB5 := Lib.hid (below_add HB4.out hb5 HB4.out.size); clear hb hb5)
        | (go_at_call 12; (with_reducible refine (HMb.out _ _ _ Hs5.out Hb5.out).mono ?_); rintro e w6 ⟨rfl, hb⟩; have hb6 := hb; have Hs6 := Lib.hid (Hs5.out.below hb6 (Nat.le_refl _)); have Hv6 := Lib.hid (Hv5.out.below hb6); have Ha6 := Lib.hid (Ha5.out.below hb6); have Hb6 := Lib.hid (Hb5.out.below hb6); have HB6 := Lib.hid (below_add HB5.out hb6 HB5.out.size); clear hb hb6)
        | (go_at_call 10; (with_reducible refine (HTa.out _ _ Ha6.out).mono ?_); rintro e w7 ⟨rfl, hb⟩; have hb7 := hb; have Hs7 := Lib.hid (Hs6.out.below hb7 (Nat.le_refl _)); have Hv7 := Lib.hid (Hv6.out.below hb7); have Ha7 := Lib.hid (Ha6.out.below hb7); have Hb7 := Lib.hid (Hb6.out.below hb7); have HB7 := Lib.hid (below_add HB6.out hb7 HB6.out.size); clear hb hb7)
        | (go_at_call 10; (with_reducible refine (HTb.out _ _ Hb7.out).mono ?_); rintro e w8 ⟨rfl, hb⟩; have hb8 := hb; have Hs8 := Lib.hid (Hs7.out.below hb8 (Nat.le_refl _)); have Hv8 := Lib.hid (Hv7.out.below hb8); have Ha8 := Lib.hid (Ha7.out.below hb8); have Hb8 := Lib.hid (Hb7.out.below hb8); have HB8 := Lib.hid (below_add HB7.out hb8 HB7.out.size); clear hb hb8)
        | (go_at_call 10; (with_reducible refine (HTx.out _ _ Hv8.out).mono ?_); rintro e w9 ⟨rfl, hb⟩; have hb9 := hb; have Hs9 := Lib.hid (Hs8.out.below hb9 (Nat.le_refl _)); have Hv9 := Lib.hid (Hv8.out.below hb9); have Ha9 := Lib.hid (Ha8.out.below hb9); have Hb9 := Lib.hid (Hb8.out.below hb9); have HB9 := Lib.hid (below_add HB8.out hb9 HB8.out.size); clear hb hb9)
        | (go_at_call 11; (with_reducible refine (HKa.out _ _ Ha9.out).mono ?_); rintro e w10 ⟨rfl, hb⟩; have hb10 := hb; have Hs10 := Lib.hid (Hs9.out.below hb10 (Nat.le_refl _)); have Hv10 := Lib.hid (Hv9.out.below hb10); have Ha10 := Lib.hid (Ha9.out.below hb10); have Hb10 := Lib.hid (Hb9.out.below hb10); have HB10 := Lib.hid (below_add HB9.out hb10 HB9.out.size); clear hb hb10)
        | (go_at_call 11; (with_reducible refine (HKb.out _ _ Hb10.out).mono ?_); rintro e w11 ⟨rfl, hb⟩; have hb11 := hb; have Hs11 := Lib.hid (Hs10.out.below hb11 (Nat.le_refl _)); have Hv11 := Lib.hid (Hv10.out.below hb11); have Ha11 := Lib.hid (Ha10.out.below hb11); have Hb11 := Lib.hid (Hb10.out.below hb11); have HB11 := Lib.hid (below_add HB10.out hb11 HB10.out.size); clear hb hb11)
        | (go_at_call 11; (with_reducible refine (HKx.out _ _ Hv11.out).mono ?_); rintro e w12 ⟨rfl, hb⟩; have hb12 := hb; have Hs12 := Lib.hid (Hs11.out.below hb12 (Nat.le_refl _)); have Hv12 := Lib.hid (Hv11.out.below hb12); have Ha12 := Lib.hid (Ha11.out.below hb12); have Hb12 := Lib.hid (Hb11.out.below hb12); have HB12 := Lib.hid (below_add HB11.out hb12 HB11.out.size); clear hb hb12)
        | (go_at_call 13; (with_reducible refine (HPx.out _ _ _ Hs12.out Hv12.out).mono ?_); rintro e w13 ⟨rfl, hb⟩; have hb13 := hb; have Hs13 := Lib.hid (Hs12.out.below hb13 (Nat.le_refl _)); have Hv13 := Lib.hid (Hv12.out.below hb13); have Ha13 := Lib.hid (Ha12.out.below hb13); have Hb13 := Lib.hid (Hb12.out.below hb13); have HB13 := Lib.hid (below_add HB12.out hb13 HB12.out.size); clear hb hb13)
        | (go_at_call 13; (with_reducible refine (HPa.out _ _ _ Hs13.out Ha13.out).mono ?_); rintro e w14 ⟨rfl, hb⟩; have hb14 := hb; have Hs14 := Lib.hid (Hs13.out.below hb14 (Nat.le_refl _)); have Hv14 := Lib.hid (Hv13.out.below hb14); have Ha14 := Lib.hid (Ha13.out.below hb14); have Hb14 := Lib.hid (Hb13.out.below hb14); have HB14 := Lib.hid (below_add HB13.out hb14 HB13.out.size); clear hb hb14)
        | (go_at_call 7; (with_reducible refine (HK.out _).mono ?_); rintro e w99 ⟨rfl, hb⟩; have HB99 := Lib.hid (below_add HB14.out hb HB14.out.size); clear hb))
      go_ret
      exact ⟨rfl, HB99.out⟩
    · cases pb
      · go_wp2_with (first
          | (go_at_call 12; (with_reducible refine (HMa.out _ _ _ Hs4.out Ha4.out).mono ?_); rintro e w5 ⟨rfl, hb⟩; have hb5 := hb; have Hs5 := Lib.hid (Hs4.out.below hb5 (Nat.le_refl _)); have Hv5 := Lib.hid (Hv4.out.below hb5); have Ha5 := Lib.hid (Ha4.out.below hb5); have Hb5 := Lib.hid (Hb4.out.below hb5); have HB5 := Lib.hid (below_add HB4.out hb5 HB4.out.size); clear hb hb5)
          | (go_at_call 12; (with_reducible refine (HMb.out _ _ _ Hs5.out Hb5.out).mono ?_); rintro e w6 ⟨rfl, hb⟩; have hb6 := hb; have Hs6 := Lib.hid (Hs5.out.below hb6 (Nat.le_refl _)); have Hv6 := Lib.hid (Hv5.out.below hb6); have Ha6 := Lib.hid (Ha5.out.below hb6); have Hb6 := Lib.hid (Hb5.out.below hb6); have HB6 := Lib.hid (below_add HB5.out hb6 HB5.out.size); clear hb hb6)
          | (go_at_call 10; (with_reducible refine (HTa.out _ _ Ha6.out).mono ?_); rintro e w7 ⟨rfl, hb⟩; have hb7 := hb; have Hs7 := Lib.hid (Hs6.out.below hb7 (Nat.le_refl _)); have Hv7 := Lib.hid (Hv6.out.below hb7); have Ha7 := Lib.hid (Ha6.out.below hb7); have Hb7 := Lib.hid (Hb6.out.below hb7); have HB7 := Lib.hid (below_add HB6.out hb7 HB6.out.size); clear hb hb7)
          | (go_at_call 10; (with_reducible refine (HTb.out _ _ Hb7.out).mono ?_); rintro e w8 ⟨rfl, hb⟩; have hb8 := hb; have Hs8 := Lib.hid (Hs7.out.below hb8 (Nat.le_refl _)); have Hv8 := Lib.hid (Hv7.out.below hb8); have Ha8 := Lib.hid (Ha7.out.below hb8); have Hb8 := Lib.hid (Hb7.out.below hb8); have HB8 := Lib.hid (below_add HB7.out hb8 HB7.out.size); clear hb hb8)
          | (go_at_call 10; (with_reducible refine (HTx.out _ _ Hv8.out).mono ?_); rintro e w9 ⟨rfl, hb⟩; have hb9 := hb; have Hs9 := Lib.hid (Hs8.out.below hb9 (Nat.le_refl _)); have Hv9 := Lib.hid (Hv8.out.below hb9); have Ha9 := Lib.hid (Ha8.out.below hb9); have Hb9 := Lib.hid (Hb8.out.below hb9); have HB9 := Lib.hid (below_add HB8.out hb9 HB8.out.size); clear hb hb9)
          | (go_at_call 11; (with_reducible refine (HKa.out _ _ Ha9.out).mono ?_); rintro e w10 ⟨rfl, hb⟩; have hb10 := hb; have Hs10 := Lib.hid (Hs9.out.below hb10 (Nat.le_refl _)); have Hv10 := Lib.hid (Hv9.out.below hb10); have Ha10 := Lib.hid (Ha9.out.below hb10); have Hb10 := Lib.hid (Hb9.out.below hb10); have HB10 := Lib.hid (below_add HB9.out hb10 HB9.out.size); clear hb hb10)
          | (go_at_call 11; (with_reducible refine (HKb.out _ _ Hb10.out).mono ?_); rintro e w11 ⟨rfl, hb⟩; have hb11 := hb; have Hs11 := Lib.hid (Hs10.out.below hb11 (Nat.le_refl _)); have Hv11 := Lib.hid (Hv10.out.below hb11); have Ha11 := Lib.hid (Ha10.out.below hb11); have Hb11 := Lib.hid (Hb10.out.below hb11); have HB11 := Lib.hid (below_add HB10.out hb11 HB10.out.size); clear hb hb11)
          | (go_at_call 11; (with_reducible refine (HKx.out _ _ Hv11.out).mono ?_); rintro e w12 ⟨rfl, hb⟩; have hb12 := hb; have Hs12 := Lib.hid (Hs11.out.below hb12 (Nat.le_refl _)); have Hv12 := Lib.hid (Hv11.out.below hb12); have Ha12 := Lib.hid (Ha11.out.below hb12); have Hb12 := Lib.hid (Hb11.out.below hb12); have HB12 := Lib.hid (below_add HB11.out hb12 HB11.out.size); clear hb hb12)
          | (go_at_call 13; (with_reducible refine (HPx.out _ _ _ Hs12.out Hv12.out).mono ?_); rintro e w13 ⟨rfl, hb⟩; have hb13 := hb; have Hs13 := Lib.hid (Hs12.out.below hb13 (Nat.le_refl _)); have Hv13 := Lib.hid (Hv12.out.below hb13); have Ha13 := Lib.hid (Ha12.out.below hb13); have Hb13 := Lib.hid (Hb12.out.below hb13); have HB13 := Lib.hid (below_add HB12.out hb13 HB12.out.size); clear hb hb13)
          | (go_at_call 13; (with_reducible refine (HPa.out _ _ _ Hs13.out Ha13.out).mono ?_); rintro e w14 ⟨rfl, hb⟩; have hb14 := hb; have Hs14 := Lib.hid (Hs13.out.below hb14 (Nat.le_refl _)); have Hv14 := Lib.hid (Hv13.out.below hb14); have Ha14 := Lib.hid (Ha13.out.below hb14); have Hb14 := Lib.hid (Hb13.out.below hb14); have HB14 := Lib.hid (below_add HB13.out hb14 HB13.out.size); clear hb hb14)
          | (go_at_call 13; (with_reducible refine (HPb.out _ _ _ Hs14.out Hb14.out).mono ?_); rintro e w15 ⟨rfl, hb⟩; have hb15 := hb; have Hs15 := Lib.hid (Hs14.out.below hb15 (Nat.le_refl _)); have Hv15 := Lib.hid (Hv14.out.below hb15); have Ha15 := Lib.hid (Ha14.out.below hb15); have Hb15 := Lib.hid (Hb14.out.below hb15); have HB15 := Lib.hid (below_add HB14.out hb15 HB14.out.size); clear hb hb15)
          | (go_at_call 7; (with_reducible refine (HK.out _).mono ?_); rintro e w99 ⟨rfl, hb⟩; have HB99 := Lib.hid (below_add HB15.out hb HB15.out.size); clear hb))
        go_ret
        exact ⟨rfl, HB99.out⟩
      · go_wp2_with (first
          | (go_at_call 12; (with_reducible refine (HMa.out _ _ _ Hs4.out Ha4.out).mono ?_); rintro e w5 ⟨rfl, hb⟩; have hb5 := hb; have Hs5 := Lib.hid (Hs4.out.below hb5 (Nat.le_refl _)); have Hv5 := Lib.hid (Hv4.out.below hb5); have Ha5 := Lib.hid (Ha4.out.below hb5); have Hb5 := Lib.hid (Hb4.out.below hb5); have HB5 := Lib.hid (below_add HB4.out hb5 HB4.out.size); clear hb hb5)
          | (go_at_call 12; (with_reducible refine (HMb.out _ _ _ Hs5.out Hb5.out).mono ?_); rintro e w6 ⟨rfl, hb⟩; have hb6 := hb; have Hs6 := Lib.hid (Hs5.out.below hb6 (Nat.le_refl _)); have Hv6 := Lib.hid (Hv5.out.below hb6); have Ha6 := Lib.hid (Ha5.out.below hb6); have Hb6 := Lib.hid (Hb5.out.below hb6); have HB6 := Lib.hid (below_add HB5.out hb6 HB5.out.size); clear hb hb6)
          | (go_at_call 10; (with_reducible refine (HTa.out _ _ Ha6.out).mono ?_); rintro e w7 ⟨rfl, hb⟩; have hb7 := hb; have Hs7 := Lib.hid (Hs6.out.below hb7 (Nat.le_refl _)); have Hv7 := Lib.hid (Hv6.out.below hb7); have Ha7 := Lib.hid (Ha6.out.below hb7); have Hb7 := Lib.hid (Hb6.out.below hb7); have HB7 := Lib.hid (below_add HB6.out hb7 HB6.out.size); clear hb hb7)
          | (go_at_call 10; (with_reducible refine (HTb.out _ _ Hb7.out).mono ?_); rintro e w8 ⟨rfl, hb⟩; have hb8 := hb; have Hs8 := Lib.hid (Hs7.out.below hb8 (Nat.le_refl _)); have Hv8 := Lib.hid (Hv7.out.below hb8); have Ha8 := Lib.hid (Ha7.out.below hb8); have Hb8 := Lib.hid (Hb7.out.below hb8); have HB8 := Lib.hid (below_add HB7.out hb8 HB7.out.size); clear hb hb8)
          | (go_at_call 10; (with_reducible refine (HTx.out _ _ Hv8.out).mono ?_); rintro e w9 ⟨rfl, hb⟩; have hb9 := hb; have Hs9 := Lib.hid (Hs8.out.below hb9 (Nat.le_refl _)); have Hv9 := Lib.hid (Hv8.out.below hb9); have Ha9 := Lib.hid (Ha8.out.below hb9); have Hb9 := Lib.hid (Hb8.out.below hb9); have HB9 := Lib.hid (below_add HB8.out hb9 HB8.out.size); clear hb hb9)
          | (go_at_call 11; (with_reducible refine (HKa.out _ _ Ha9.out).mono ?_); rintro e w10 ⟨rfl, hb⟩; have hb10 := hb; have Hs10 := Lib.hid (Hs9.out.below hb10 (Nat.le_refl _)); have Hv10 := Lib.hid (Hv9.out.below hb10); have Ha10 := Lib.hid (Ha9.out.below hb10); have Hb10 := Lib.hid (Hb9.out.below hb10); have HB10 := Lib.hid (below_add HB9.out hb10 HB9.out.size); clear hb hb10)
          | (go_at_call 11; (with_reducible refine (HKb.out _ _ Hb10.out).mono ?_); rintro e w11 ⟨rfl, hb⟩; have hb11 := hb; have Hs11 := Lib.hid (Hs10.out.below hb11 (Nat.le_refl _)); have Hv11 := Lib.hid (Hv10.out.below hb11); have Ha11 := Lib.hid (Ha10.out.below hb11); have Hb11 := Lib.hid (Hb10.out.below hb11); have HB11 := Lib.hid (below_add HB10.out hb11 HB10.out.size); clear hb hb11)
          | (go_at_call 11; (with_reducible refine (HKx.out _ _ Hv11.out).mono ?_); rintro e w12 ⟨rfl, hb⟩; have hb12 := hb; have Hs12 := Lib.hid (Hs11.out.below hb12 (Nat.le_refl _)); have Hv12 := Lib.hid (Hv11.out.below hb12); have Ha12 := Lib.hid (Ha11.out.below hb12); have Hb12 := Lib.hid (Hb11.out.below hb12); have HB12 := Lib.hid (below_add HB11.out hb12 HB11.out.size); clear hb hb12)
          | (go_at_call 13; (with_reducible refine (HPx.out _ _ _ Hs12.out Hv12.out).mono ?_); rintro e w13 ⟨rfl, hb⟩; have hb13 := hb; have Hs13 := Lib.hid (Hs12.out.below hb13 (Nat.le_refl _)); have Hv13 := Lib.hid (Hv12.out.below hb13); have Ha13 := Lib.hid (Ha12.out.below hb13); have Hb13 := Lib.hid (Hb12.out.below hb13); have HB13 := Lib.hid (below_add HB12.out hb13 HB12.out.size); clear hb hb13)
          | (go_at_call 13; (with_reducible refine (HPa.out _ _ _ Hs13.out Ha13.out).mono ?_); rintro e w14 ⟨rfl, hb⟩; have hb14 := hb; have Hs14 := Lib.hid (Hs13.out.below hb14 (Nat.le_refl _)); have Hv14 := Lib.hid (Hv13.out.below hb14); have Ha14 := Lib.hid (Ha13.out.below hb14); have Hb14 := Lib.hid (Hb13.out.below hb14); have HB14 := Lib.hid (below_add HB13.out hb14 HB13.out.size); clear hb hb14)
          | (go_at_call 13; (with_reducible refine (HPb.out _ _ _ Hs14.out Hb14.out).mono ?_); rintro e w15 ⟨rfl, hb⟩; have hb15 := hb; have Hs15 := Lib.hid (Hs14.out.below hb15 (Nat.le_refl _)); have Hv15 := Lib.hid (Hv14.out.below hb15); have Ha15 := Lib.hid (Ha14.out.below hb15); have Hb15 := Lib.hid (Hb14.out.below hb15); have HB15 := Lib.hid (below_add HB14.out hb15 HB14.out.size); clear hb hb15)
          | (go_at_call 7; (with_reducible refine (HK.out _).mono ?_); rintro e w99 ⟨rfl, hb⟩; have HB99 := Lib.hid (below_add HB15.out hb HB15.out.size); clear hb))
        go_ret
        exact ⟨rfl, HB99.out⟩
end Go.Proofs.Ytoiomijchchlnaa
