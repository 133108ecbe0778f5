
import Derived.Test.YtclbjfeneegicaaBJ
/- BK: BlocksCuts -/
namespace Go.Proofs.Ytclbjfeneegicaa
open Go.RowKit
set_option linter.unusedVariables false
set_option maxRecDepth 100000

theorem ex_sets {zs : List Bz} {m : Nat} (h : ∀ z ∈ zs, z.s.length ≤ m) : ∀ s ∈ ex (zs.map Bz.b), s.length ≤ m := fun s hs => by
  obtain ⟨b, hb, hm⟩ := List.mem_flatMap.1 hs
  obtain ⟨z, hz, rfl⟩ := List.mem_map.1 hb
  unfold plc at hm
  rw [List.mem_replicate] at hm
  rw [hm.2]
  exact h z hz
/-- What tame blocks are within. -/
structure TameP (zs : List Bz) : Prop where
  l : zs.length ≤ 200
  l2 : zs.length ≤ 1000
  n0 : ∀ z ∈ zs, 0 ≤ z.n ∧ z.n ≤ 1125899906842624
  n : ∀ z ∈ zs, z.n ≤ 1125899906842624
  s : ∀ z ∈ zs, z.s.length ≤ 1000
  e : ∀ s ∈ ex (zs.map Bz.b), s.length ≤ 30
  p : (ex (zs.map Bz.b)).length ≤ 1125899906842624
theorem Tame.p {zs : List Bz} (h : Tame zs) : TameP zs := by
  have hl := h.1
  refine ⟨hl, by omega, fun z hz => ⟨(h.2 z hz).1, by have := (h.2 z hz).2.1; omega⟩, fun z hz => by have := (h.2 z hz).2.1; omega, fun z hz => by have := (h.2 z hz).2.2; omega, ex_sets (fun z hz => (h.2 z hz).2.2), ?_⟩
  have := lenB_le (l := zs.map Bz.b) (m := 200) (N := 1099511627776) (fun b hb => by obtain ⟨z, hz, rfl⟩ := List.mem_map.1 hb; exact (h.2 z hz).2.1) (by decide) (by simpa using hl)
  unfold lenB at this
  omega
/-- What blocks that tell some of these places are within. -/
theorem part_bounds {zs zs' : List Bz} {p : List (List Att)} (h : TameP zs) (hr : Rep (zs'.map Bz.b) p) (hp : p.length ≤ (ex (zs.map Bz.b)).length) (hs : ∀ s ∈ p, s ∈ ex (zs.map Bz.b)) : (∀ z ∈ zs', z.n ≤ 1125899906842624) ∧ (∀ z ∈ zs', z.s.length ≤ 1000) :=
  have b := bz_bounds hr (m := 30) (Nat.le_trans hp h.p) (fun s hs2 => h.e s (hs s hs2))
  ⟨b.1, fun z hz => Nat.le_trans (b.2.1 z hz) (by decide)⟩
theorem clamp_le (x : Int) (N : Nat) : ∃ m : Nat, (if (N : Int) < (if x < 0 then 0 else x) then (N : Int) else (if x < 0 then 0 else x)) = (m : Int) ∧ m ≤ N := by
  by_cases h : x < 0
  · rw [if_pos h, if_neg (by omega)]
    exact ⟨0, rfl, Nat.zero_le _⟩
  · rw [if_neg h]
    by_cases h2 : (N : Int) < x
    · rw [if_pos h2]; exact ⟨N, rfl, Nat.le_refl _⟩
    · rw [if_neg h2]; exact ⟨x.toNat, by omega, by omega⟩
theorem bl2 {A B C : World} (h : Below A.heap.size A B) (k : Below B.heap.size B C) : Below A.heap.size A C := below_add h k h.size
theorem take_le (l : List (List Att)) (J I : Int) : ((l.take J.toNat).drop I.toNat).length ≤ l.length := by rw [List.length_drop, List.length_take]; omega
theorem take_sub (l : List (List Att)) (J I : Int) : ∀ s ∈ (l.take J.toNat).drop I.toNat, s ∈ l := fun s hs => List.mem_of_mem_take (List.mem_of_mem_drop hs)
theorem take_drop_len {l : List (List Att)} {I J : Nat} (h : I ≤ J) (hJ : J ≤ l.length) : (((((l.take (J : Int).toNat).drop (I : Int).toNat).length : Nat)) : Int) = (J : Int) - (I : Int) := by
  rw [List.length_drop, List.length_take]; omega
theorem cut_nat (v : Value) (zs : List Bz) (I J : Nat) (w : World) (hv : Zrow w v zs) (h : TameP zs) (hI : I ≤ 9223372036854775807) (hJ : J ≤ 9223372036854775807) :
    Calls Try.prog 15 #[v, .int .i64 (I : Nat), .int .i64 (J : Nat)] w fun e w' => ∃ a c zs', e = .returned (.slice a zs'.length c) ∧ Zown w.heap.size w' (.slice a zs'.length c) zs' ∧ Rep (zs'.map Bz.b) (((ex (zs.map Bz.b)).take (J : Int).toNat).drop (I : Int).toNat) ∧ zs'.length ≤ zs.length ∧ Below w.heap.size w w' :=
  cut_any v zs I J w hv h.l2 h.n h.s (by omega) (by omega) (by omega)
theorem cut_ifs {x y : Int} {v : Value} {A : Int} {w : World} {R : Ending → World → Prop} (h : x = y) (hc : Calls Try.prog 15 #[v, .int .i64 A, .int .i64 y] w R) : Calls Try.prog 15 #[v, .int .i64 A, .int .i64 x] w R := by rw [h]; exact hc
theorem cut_cut {L p : List (List Att)} {A B K : Nat} (h : p = (L.take (B : Int).toNat).drop (A : Int).toNat) : (p.take (K : Int).toNat).drop (0 : Int).toNat = (L.take ((min (A + K) B : Nat) : Int).toNat).drop (A : Int).toNat := by
  subst h
  simp only [Int.toNat_natCast, Int.toNat_zero, List.drop_zero]
  rw [List.take_drop, List.take_take]
theorem same_yes {w : World} {v1 v2 : Value} {xs ys : List Bz} {p q : List (List Att)} (h1 : Zrow w v1 xs) (h2 : Zrow w v2 ys) (r1 : Rep (xs.map Bz.b) p) (r2 : Rep (ys.map Bz.b) q) (h : p = q) :
    Calls Try.prog 18 #[v1, v2] w fun e w' => e = .returned (.bool true) ∧ Below w.heap.size w w' :=
  (rsame_any v1 v2 xs ys w h1 h2).mono fun e w' hh => ⟨by rw [hh.1, decide_eq_true ((r1.iff r2).2 h)], hh.2⟩
theorem two_facts {w w2 w3 w4 w5 : World} {zs zs1 zs2 : List Bz} {pa qa ta : Option Addr} {pc qc tc I N : Nat} (ht : TameP zs) (hN : (ex (zs.map Bz.b)).length = N) (hI : I ≤ N)
    (h1 : Zown w2.heap.size w4 (.slice pa zs1.length pc) zs1) (h2 : Zown w3.heap.size w4 (.slice qa zs2.length qc) zs2) (r1 : Rep (zs1.map Bz.b) (((ex (zs.map Bz.b)).take (I : Int).toNat).drop (0 : Int).toNat)) (r2 : Rep (zs2.map Bz.b) (((ex (zs.map Bz.b)).take (N : Int).toNat).drop (I : Int).toNat))
    (l1 : zs1.length ≤ zs.length) (l2 : zs2.length ≤ zs.length) (h23 : w2.heap.size ≤ w3.heap.size) (hd : Below w2.heap.size w2 w4) (hb : Below w.heap.size w w4)
    (ho : w5.ownsRow w2.heap.size 34 bzC.m (.slice ta (zs1.length + zs2.length) tc) (zs1.length + zs2.length) (fl bzC zs1 ++ fl bzC zs2)) (hg : w4.grownBy w5 (Value.slice pa zs1.length pc).ownBlock) (hw2 : w.heap.size ≤ w2.heap.size) :
    Calls Try.prog 14 #[.slice ta (zs1.length + zs2.length) tc] w5 (fun e w' => ∃ a c zs', e = .returned (.slice a zs'.length c) ∧ Zown w5.heap.size w' (.slice a zs'.length c) zs' ∧ Rep (zs'.map Bz.b) (ex (zs.map Bz.b)) ∧ zs'.length ≤ (zs1 ++ zs2).length ∧ Below w5.heap.size w5 w') ∧
      Below w.heap.size w w5 ∧ Below w2.heap.size w2 w5 := by
  have hO : Off (fun k => (Value.slice pa zs1.length pc).ownBlock = some k) w4 w5 := Off.of_grown hg (fun g hg => hg)
  have hz := Zown.appd h1 h2 h23 hg ho
  have e : ex ((zs1 ++ zs2).map Bz.b) = ex (zs.map Bz.b) := by
    rw [List.map_append, ex_app, r1.ex, r2.ex]
    simp only [Int.toNat_natCast, Int.toNat_zero, List.drop_zero]
    rw [← hN, List.take_of_length_le (Nat.le_refl _), List.take_append_drop]
  have b1 := part_bounds ht r1 (take_le _ _ _) (take_sub _ _ _)
  have b2 := part_bounds ht r2 (take_le _ _ _) (take_sub _ _ _)
  have hl := ht.l
  refine ⟨?_, hb.trans (hO.below (fun k hk => Nat.le_trans hw2 (own_base h1.row hk)) hb.size), hd.trans (hO.below (fun k hk => own_base h1.row hk) hd.size)⟩
  rw [← e]
  refine join_any _ (zs1 ++ zs2) w5 hz.zrow (by rw [List.length_append]; omega) (fun z hz => ?_) (fun z hz => ?_)
  · rcases List.mem_append.1 hz with hz | hz
    · exact b1.1 z hz
    · exact b2.1 z hz
  · rcases List.mem_append.1 hz with hz | hz
    · exact b1.2 z hz
    · exact b2.2 z hz
set_option maxHeartbeats 4000000 in
theorem cuts_walk (v : Value) (zs : List Bz) (i j k : Int) (w : World) (hv : Zrow w v zs) :
    Calls Try.prog 5 #[v, .int .i64 i, .int .i64 j, .int .i64 k] w fun e w' => e = .returned (.bool true) ∧ Below w.heap.size w w' := by
  have HTM := Lib.hid (tame_any v zs w hv)
  obtain ⟨va, vc, rfl⟩ := hv.shape
  have HV := Lib.hid hv
  have HK0 := Lib.hid (kn_end (Below.refl w.heap.size w))
  clear hv
  by_cases ht : ¬ Tame zs
  · rw [decide_eq_false ht] at HTM
    clear ht
    go_enter Try.func5, Try.ntmps5
    go_wp2_with (first
      | (go_at_call 8; refine HTM.out.mono ?_; rintro e w1 ⟨rfl, hw⟩; have hw := hw.symm; subst hw)
      | (go_at_call 12; refine HK0.out.mono ?_; rintro e w1 ⟨rfl, hb1⟩))
    go_ret
    exact ⟨rfl, hb1⟩
  have ht := Decidable.not_not.1 ht
  rw [decide_eq_true ht] at HTM
  have HT := Lib.hid ht.p
  obtain ⟨N, hN⟩ : ∃ N, (ex (zs.map Bz.b)).length = N := ⟨_, rfl⟩
  have HN := Lib.hid hN
  have HLE := Lib.hid ((len_any _ zs w HV.out (fun z hz => Int.le_trans (HT.out.n z hz) (by decide))).mono fun e w' hh => (show e = .returned (.int .i64 (N : Nat)) ∧ Below w.heap.size w w' from ⟨by rw [hh.1, len_tame HT.out.l2 HT.out.n, hN], hh.2⟩))
  have hNb : N ≤ 1125899906842624 := by rw [← hN]; exact ht.p.p
  clear ht hN
  have g0 : decide ((N : Int) < 0) = false := decide_eq_false (by omega)
  go_enter Try.func5, Try.ntmps5
  go_upto_region 7 with (first
    | (go_at_call 8; refine HTM.out.mono ?_; rintro e w1 ⟨rfl, hw⟩; have hw := hw.symm; subst hw)
    | (go_at_call 11; refine HLE.out.mono ?_; rintro e w1 ⟨rfl, hb1⟩; have HB1 := Lib.hid hb1; have HZ1 := Lib.hid (HV.out.below hb1); clear hb1))
  obtain ⟨I, hI, hIN⟩ := clamp_le i N
  obtain ⟨J, hJ, hJN⟩ := clamp_le j N
  obtain ⟨K, hK, hKN⟩ := clamp_le k N
  rw [hI, hJ, hK]
  clear hI hJ hK
  generalize (if i < 0 then (0 : Int) else i) = i2
  generalize (if j < 0 then (0 : Int) else j) = j2
  generalize (if k < 0 then (0 : Int) else k) = k2
  obtain ⟨i0, hi, hz0, hz1, hz2⟩ := info_bk
  have HC2 := Lib.hid (fun w2 (hb : Below w.heap.size w w2) => cut_any _ zs 0 I w2 (HV.out.below hb) HT.out.l2 HT.out.n HT.out.s (by decide) (by omega) (by omega))
  have HC3 := Lib.hid (fun w2 (hb : Below w.heap.size w w2) => cut_nat _ zs I N w2 (HV.out.below hb) HT.out (by omega) (by omega))
  go_upto_region 8 with (first
    | (go_at_call 14; (with_reducible refine (join_any _ zs w1 HZ1.out HT.out.l2 HT.out.n HT.out.s).mono ?_); rintro e w2 ⟨wa, wc, zw, rfl, q1, q2, q3, q4⟩; have HW2 := Lib.hid q1.zrow; have HWR := Lib.hid q2; have HWB := Lib.hid (part_bounds HT.out q2 (Nat.le_refl _) (fun _ h => h)); have HWL := Lib.hid q3; have HB2 := Lib.hid (bl2 HB1.out q4); clear q1 q2 q3 q4))
  have hWL := HWL.out
  have hTL0 := HT.out.l
  go_upto_region 9 with (first
    | (go_at_call 15; (with_reducible refine (HC2.out w2 HB2.out).mono ?_); rintro e w3 ⟨pa, pc, zs1, rfl, q1, q2, q3, q4⟩; have HP3 := Lib.hid q1; have HPR1 := Lib.hid q2; have HB3 := Lib.hid (bl2 HB2.out q4); have HD3 := Lib.hid q4; have HPL1 := Lib.hid q3; clear q1 q2 q3 q4)
    | (go_at_call 15; (with_reducible refine (HC3.out w3 HB3.out).mono ?_); rintro e w4 ⟨qa, qc, zs2, rfl, q1, q2, q3, q4⟩; have HP4 := Lib.hid (HP3.out.below q4); have HQ4 := Lib.hid q1; have HQR1 := Lib.hid q2; have HB4 := Lib.hid (bl2 HB3.out q4); have HD4 := Lib.hid (bl2 HD3.out q4); have HQL1 := Lib.hid q3; have HW34 := Lib.hid q4.size; clear q1 q2 q3 q4)
    | (at_builtin; refine wpList_append_row (C := bzC) rfl (.tmp 37) (.tmp 41) 22 rfl w2.heap.size 34 i0 (bv 0 none 0 0) 32 Try.underlying22 hi hz0 hz1 hz2 rfl (.slice pa zs1.length pc) zs1.length (fl bzC zs1) rfl HP4.out.row _ zs2 rfl HQ4.out.zrow.row (by have := HPL1.out; have := HQL1.out; unfold maxLen; omega) (by have := HPL1.out; have := HQL1.out; omega) HD4.out.size ?_; intro v5 w5 hown5 hgrow5; obtain ⟨ta, tc, rfl, -, -⟩ := own_shape hown5; have HF5 := Lib.hid (two_facts HT.out HN.out hIN HP4.out HQ4.out HPR1.out HQR1.out HPL1.out HQL1.out HD3.out.size HD4.out HB4.out hown5 hgrow5 HB2.out.size); clear hown5 hgrow5))
  go_upto_region 11 with (first
    | (go_at_call 14; (with_reducible refine HF5.out.1.mono ?_); rintro e w6 ⟨xa, xc, zt, rfl, q1, q2, q3, q4⟩; have HB6 := Lib.hid (bl2 HF5.out.2.1 q4); have HD6 := Lib.hid (bl2 HF5.out.2.2 q4); have HS7 := Lib.hid (same_yes q1.zrow (HW2.out.below HD6.out) q2 HWR.out rfl); clear q1 q2 q3 q4)
    | (go_at_call 18; (with_reducible refine HS7.out.mono ?_); rintro e w7 ⟨rfl, hb⟩; have HB7 := Lib.hid (bl2 HB6.out hb); have HD7 := Lib.hid (bl2 HD6.out hb); have HJ8 := Lib.hid (join_any _ zw w7 (HW2.out.below HD7.out) (by omega) HWB.out.1 HWB.out.2); clear hb)
    | (go_at_call 14; (with_reducible refine HJ8.out.mono ?_); rintro e w8 ⟨ya, yc, zx, rfl, q1, q2, q3, q4⟩; have HB8 := Lib.hid (bl2 HB7.out q4); have HD8 := Lib.hid (bl2 HD7.out q4); have HS9 := Lib.hid (same_yes q1.zrow (HW2.out.below HD8.out) q2 HWR.out HWR.out.ex); clear q1 q2 q3 q4)
    | (go_at_call 18; (with_reducible refine HS9.out.mono ?_); rintro e w9 ⟨rfl, hb⟩; have HB9 := Lib.hid (bl2 HB8.out hb); have HD9 := Lib.hid (bl2 HD8.out hb); have HPP := Lib.hid ((proper_any _ zw w9 (HW2.out.below HD9.out)).mono fun e w' hh => (show e = .returned (.bool true) ∧ Below w9.heap.size w9 w' from ⟨by rw [hh.1, (prpB_iff _).2 HWR.out.prp], hh.2⟩)); clear hb)
    | (go_at_call 9; (with_reducible refine HPP.out.mono ?_); rintro e w10 ⟨rfl, hb⟩; have HB10 := Lib.hid (bl2 HB9.out hb); clear hb))
  clear HC2 HC3 hWL
  by_cases hij : J < I
  · have hAB : J ≤ I := by omega
    have g3 : decide ((J : Int) < (I : Int)) = true := by rw [decide_eq_true_iff]; omega
    have e5 : IntKind.i64.wrap ((I : Int) - (J : Int)) = (I : Int) - (J : Int) := by rw [IntKind.wrap_i64]; omega
    have e6 : IntKind.i64.wrap ((J : Int) + (K : Int)) = (J : Int) + (K : Int) := by rw [IntKind.wrap_i64]; omega
    have e7 : (J : Int) + (K : Int) ≤ 9223372036854775807 := by omega
    have e8 : (0 : Int) ≤ (J : Int) + (K : Int) := by omega
    have HMN := Lib.hid (show (if (I : Int) < (J : Int) + (K : Int) then (I : Int) else (J : Int) + (K : Int)) = ((min (J + K) I : Nat) : Int) from by split <;> omega)
    go_upto_region 14 with (first
      | (go_at_call 15; (with_reducible refine (cut_nat _ zs J I w10 (HV.out.below HB10.out) HT.out (by omega) (by omega)).mono ?_); rintro e w11 ⟨na, nc, zp, rfl, q1, q2, q3, q4⟩; have HP := Lib.hid q1.zrow; have HPR := Lib.hid q2; have HPB := Lib.hid (part_bounds HT.out q2 (take_le _ _ _) (take_sub _ _ _)); have HPL := Lib.hid q3; have HB11 := Lib.hid (bl2 HB10.out q4); clear q1 q2 q3 q4))
    have hPL := HPL.out
    have hTL := HT.out.l
    have HLP := Lib.hid ((len_any _ zp w11 HP.out (fun z hz => Int.le_trans (HPB.out.1 z hz) (by decide))).mono fun e w' hh => (show e = .returned (.int .i64 ((I : Int) - (J : Int))) ∧ Below w11.heap.size w11 w' from ⟨by rw [hh.1, len_tame (by omega) HPB.out.1, HPR.out.ex, take_drop_len hAB (by rw [HN.out]; omega)], hh.2⟩))
    go_wp2_with (first
      | (go_at_call 11; (with_reducible refine HLP.out.mono ?_); rintro e w12 ⟨rfl, hb⟩; have HP12 := Lib.hid (HP.out.below hb); have HB12 := Lib.hid (bl2 HB11.out hb); have HC13 := Lib.hid (cut_any _ zp 0 K w12 HP12.out (by omega) HPB.out.1 HPB.out.2 (by decide) (by omega) (by omega)); clear hb)
      | (go_at_call 15; (with_reducible refine HC13.out.mono ?_); rintro e w13 ⟨oa, oc, zq, rfl, q1, q2, q3, q4⟩; have HQ := Lib.hid q1.zrow; have HQR := Lib.hid q2; have HB13 := Lib.hid (bl2 HB12.out q4); have HC14 := Lib.hid (cut_ifs HMN.out (cut_nat _ zs J (min (J + K) I) w13 (HV.out.below HB13.out) HT.out (by omega) (by omega))); clear q1 q2 q3 q4)
      | (go_at_call 15; (with_reducible refine HC14.out.mono ?_); rintro e w14 ⟨ra, rc, zr, rfl, q1, q2, q3, q4⟩; have HB14 := Lib.hid (bl2 HB13.out q4); have HS15 := Lib.hid (same_yes (HQ.out.below q4) q1.zrow HQR.out q2 (cut_cut HPR.out.ex)); clear q1 q2 q3 q4)
      | (go_at_call 18; (with_reducible refine HS15.out.mono ?_); rintro e w15 ⟨rfl, hb⟩; have HB15 := Lib.hid (bl2 HB14.out hb); clear hb)
      | (go_at_call 12; (with_reducible refine (kn_end HB15.out).mono ?_); rintro e w16 ⟨rfl, hb16⟩))
    all_goals (go_ret; exact ⟨rfl, hb16⟩)
  · have hAB : I ≤ J := by omega
    have g3 : decide ((J : Int) < (I : Int)) = false := by rw [decide_eq_false_iff_not]; omega
    have e5 : IntKind.i64.wrap ((J : Int) - (I : Int)) = (J : Int) - (I : Int) := by rw [IntKind.wrap_i64]; omega
    have e6 : IntKind.i64.wrap ((I : Int) + (K : Int)) = (I : Int) + (K : Int) := by rw [IntKind.wrap_i64]; omega
    have e7 : (I : Int) + (K : Int) ≤ 9223372036854775807 := by omega
    have e8 : (0 : Int) ≤ (I : Int) + (K : Int) := by omega
    have HMN := Lib.hid (show (if (J : Int) < (I : Int) + (K : Int) then (J : Int) else (I : Int) + (K : Int)) = ((min (I + K) J : Nat) : Int) from by split <;> omega)
    go_upto_region 14 with (first
      | (go_at_call 15; (with_reducible refine (cut_nat _ zs I J w10 (HV.out.below HB10.out) HT.out (by omega) (by omega)).mono ?_); rintro e w11 ⟨na, nc, zp, rfl, q1, q2, q3, q4⟩; have HP := Lib.hid q1.zrow; have HPR := Lib.hid q2; have HPB := Lib.hid (part_bounds HT.out q2 (take_le _ _ _) (take_sub _ _ _)); have HPL := Lib.hid q3; have HB11 := Lib.hid (bl2 HB10.out q4); clear q1 q2 q3 q4))
    have hPL := HPL.out
    have hTL := HT.out.l
    have HLP := Lib.hid ((len_any _ zp w11 HP.out (fun z hz => Int.le_trans (HPB.out.1 z hz) (by decide))).mono fun e w' hh => (show e = .returned (.int .i64 ((J : Int) - (I : Int))) ∧ Below w11.heap.size w11 w' from ⟨by rw [hh.1, len_tame (by omega) HPB.out.1, HPR.out.ex, take_drop_len hAB (by rw [HN.out]; omega)], hh.2⟩))
    go_wp2_with (first
      | (go_at_call 11; (with_reducible refine HLP.out.mono ?_); rintro e w12 ⟨rfl, hb⟩; have HP12 := Lib.hid (HP.out.below hb); have HB12 := Lib.hid (bl2 HB11.out hb); have HC13 := Lib.hid (cut_any _ zp 0 K w12 HP12.out (by omega) HPB.out.1 HPB.out.2 (by decide) (by omega) (by omega)); clear hb)
      | (go_at_call 15; (with_reducible refine HC13.out.mono ?_); rintro e w13 ⟨oa, oc, zq, rfl, q1, q2, q3, q4⟩; have HQ := Lib.hid q1.zrow; have HQR := Lib.hid q2; have HB13 := Lib.hid (bl2 HB12.out q4); have HC14 := Lib.hid (cut_ifs HMN.out (cut_nat _ zs I (min (I + K) J) w13 (HV.out.below HB13.out) HT.out (by omega) (by omega))); clear q1 q2 q3 q4)
      | (go_at_call 15; (with_reducible refine HC14.out.mono ?_); rintro e w14 ⟨ra, rc, zr, rfl, q1, q2, q3, q4⟩; have HB14 := Lib.hid (bl2 HB13.out q4); have HS15 := Lib.hid (same_yes (HQ.out.below q4) q1.zrow HQR.out q2 (cut_cut HPR.out.ex)); clear q1 q2 q3 q4)
      | (go_at_call 18; (with_reducible refine HS15.out.mono ?_); rintro e w15 ⟨rfl, hb⟩; have HB15 := Lib.hid (bl2 HB14.out hb); clear hb)
      | (go_at_call 12; (with_reducible refine (kn_end HB15.out).mono ?_); rintro e w16 ⟨rfl, hb16⟩))
    all_goals (go_ret; exact ⟨rfl, hb16⟩)
end Go.Proofs.Ytclbjfeneegicaa
