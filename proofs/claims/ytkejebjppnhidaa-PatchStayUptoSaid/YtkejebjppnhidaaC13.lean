
import Derived.Test.YtkejebjppnhidaaC6
import Derived.Test.YtkejebjppnhidaaA4
/- C13: known -/
namespace Go.Proofs.Ytkejebjppnhidaa
open Go.RowKit
set_option linter.unusedVariables false

@[reducible] def e0 : ByteArray := ⟨#[]⟩
@[reducible] def kA : List Att := [⟨1, 2, 2, 0, e0⟩, ⟨3, 2, 4, 0, e0⟩]
@[reducible] def kB : List Att := [⟨3, 2, 5, 0, e0⟩]
@[reducible] def kP : List Chg := [⟨1, true, 0, 0, 0, e0⟩, ⟨3, false, 2, 5, 0, e0⟩]
theorem kn_diff : diff6 kA kB = kP := by
  unfold diff6 dif chs
  rw [List.map_cons, List.map_cons, List.map_nil, List.map_cons, List.map_nil, sbs_lt (by decide), sbs_eq (by decide) (by decide), sbs_nn]
  simp [putD]
theorem kn_app : app kA kP = kB := by
  unfold app comp chs
  rw [List.map_cons, List.map_cons, List.map_nil, sbs_eq (by decide) (by decide), sbs_eq (by decide) (by decide), sbs_nn]
  simp [putC, ats]
@[reducible] def kI : List Chg := [⟨1, false, 2, 2, 0, e0⟩, ⟨3, false, 2, 4, 0, e0⟩]
theorem kn_inv : inv kA kP = kI := by
  unfold inv
  rw [kn_app]
  unfold diff6 dif chs
  rw [List.map_cons, List.map_nil, List.map_cons, List.map_cons, List.map_nil, sbs_gt (by decide), sbs_eq (by decide) (by decide), sbs_nn]
  simp [putD]
theorem kn_back : app kB kI = kA := by
  unfold app comp chs
  rw [List.map_cons, List.map_nil, sbs_gt (by decide), sbs_eq (by decide) (by decide), sbs_nn]
  simp [putC, ats]
theorem arow_two (w : World) (x y : Att) (t : TypeId) : Arow (w.alloc (.cells (aca x ++ aca y) t)) (.slice (some ⟨w.heap.size, 0, none⟩) 2 2) [x, y] := Row.built (C := attC) w t [x, y] (by unfold maxLen; simp)
theorem arow_one (w : World) (x : Att) (t : TypeId) : Arow (w.alloc (.cells (aca x) t)) (.slice (some ⟨w.heap.size, 0, none⟩) 1 1) [x] := Row.built (C := attC) w t [x] (by unfold maxLen; simp)

set_option maxRecDepth 100000 in
theorem kn_any (i : Int) (w : World) : Calls Try.prog 31 #[.int .i64 i] w fun e w' => e = .returned (val 2 i 0 e0) ∧ Below w.heap.size w w' := by
  go_enter Try.func31, Try.ntmps31
  go_wp2
  exact bodyPost_ret (v := val 2 i 0 e0) (by simp [results, Try.results31, go_sem]) rfl ⟨rfl, (Below.refl _ _).alloc (Nat.le_refl _) _⟩

set_option maxRecDepth 100000 in
set_option maxHeartbeats 1000000 in
theorem known_any6 (w : World) : Calls Try.prog 10 #[] w fun e w' => e = .returned (.bool true) ∧ Below w.heap.size w w' := by
  have HK2 := Lib.hid (kn_any 2)
  have HK4 := Lib.hid (kn_any 4)
  have HK5 := Lib.hid (kn_any 5)
  have HK6 := Lib.hid (kn_any 5)
  go_enter Try.func10, Try.ntmps10
  go_wp2_with (first
    | (go_at_call 31; with_reducible (refine (HK2.out _).mono ?_); rintro e w1 ⟨rfl, hb1⟩; clear HK2)
    | (go_at_call 31; with_reducible (refine (HK4.out _).mono ?_); rintro e w2 ⟨rfl, hb2⟩; clear HK4; have hb02 := below_add hb1 hb2 hb1.size; have HA2 := Lib.hid (arow_two w2 ⟨1, 2, 2, 0, e0⟩ ⟨3, 2, 4, 0, e0⟩ 57); have hb0a := hb02.alloc hb02.size (.cells (aca ⟨1, 2, 2, 0, e0⟩ ++ aca ⟨3, 2, 4, 0, e0⟩) 57))
    | (go_at_call 31; with_reducible (refine (HK5.out _).mono ?_); rintro e w3 ⟨rfl, hb3⟩; clear HK5))
  have hb03 := below_add hb0a hb3 hb0a.size
  have HA3 := Lib.hid (HA2.out.below hb3 (Nat.le_refl _))
  have hst : Below w3.heap.size w3 (w3.alloc (.cells (aca ⟨3, 2, 5, 0, e0⟩) 57)) := (Below.refl _ _).alloc (Nat.le_refl _) _
  have HA4 := Lib.hid (HA3.out.below hst (Nat.le_refl _))
  have HB4 := Lib.hid (arow_one w3 ⟨3, 2, 5, 0, e0⟩ 57)
  have hb04 := below_add hb03 hst hb03.size
  have HB04 := Lib.hid hb04
  clear hb1 hb2 hb02 hb0a hb3 hb03 HA2 HA3 hst hb04
  generalize w3.alloc (.cells _ 57) = w4 at *
  have HD := diff_any (.slice (some ⟨w2.heap.size, 0, none⟩) 2 2) (.slice (some ⟨w3.heap.size, 0, none⟩) 1 1) kA kB w4 HA4.out HB4.out (by simp)
  rw [kn_diff] at HD
  generalize w2.heap.size = n2 at *
  generalize w3.heap.size = n3 at *
  have HAP := Lib.hid (fun u w' h1 h2 => by have := apply_any (.slice (some ⟨n2, 0, none⟩) 2 2) u kA kP w' h1 h2 (by simp); rw [kn_app] at this; exact this)
  have HIN := Lib.hid (fun u w' h1 h2 => by have := invert_any (.slice (some ⟨n2, 0, none⟩) 2 2) u kA kP w' h1 h2 (by simp); rw [kn_inv] at this; exact this)
  have HBK := Lib.hid (fun u w' h1 h2 => by have := apply_any (.slice (some ⟨n3, 0, none⟩) 1 1) u kB kI w' h1 h2 (by simp); rw [kn_back] at this; exact this)
  have HSP := Lib.hid (fun u1 u2 w' h1 h2 => by have := same_any6 u1 u2 kP kP w' h1 h2; rw [decide_eq_true rfl] at this; exact this)
  have HSB := Lib.hid (fun u1 w' h1 h2 => by have := rsame_any5 u1 (.slice (some ⟨n3, 0, none⟩) 1 1) kB kB w' h1 h2; rw [decide_eq_true rfl] at this; exact this)
  have HSA := Lib.hid (fun u1 w' h1 h2 => by have := rsame_any5 u1 (.slice (some ⟨n2, 0, none⟩) 2 2) kA kA w' h1 h2; rw [decide_eq_true rfl] at this; exact this)
  have HQL : Hid (∀ w6 : World, Crow (w6.alloc (.cells #[.int .i64 1, .bool true, .int .u8 0, .int .i64 0, .int .u64 0, .string e0, .int .i64 3, .bool false, .int .u8 2, .int .i64 5, .int .u64 0, .string e0] 52)) (.slice (some ⟨w6.heap.size, 0, none⟩) 2 2) kP) := Lib.hid (fun w6 => crow_two w6 ⟨1, true, 0, 0, 0, e0⟩ ⟨3, false, 2, 5, 0, e0⟩ 52)
  refine HD.mono ?_
  rintro e w5 ⟨u5, rfl, ho5, hb5⟩
  have HP5 := Lib.hid (own6_row ho5)
  have HA5 := Lib.hid (HA4.out.below hb5 (Nat.le_refl _))
  have HB5 := Lib.hid (HB4.out.below hb5 (Nat.le_refl _))
  have HB05 := Lib.hid (below_add HB04.out hb5 HB04.out.size)
  clear hb5 ho5 HB04 HA4 HB4 HD
  go_wp2_with (first
    | (go_at_call 31; with_reducible (refine (HK6.out _).mono ?_); rintro e w6 ⟨rfl, hb6⟩; clear HK6; have hb7 := hb6.alloc hb6.size (.cells #[.int .i64 1, .bool true, .int .u8 0, .int .i64 0, .int .u64 0, .string e0, .int .i64 3, .bool false, .int .u8 2, .int .i64 5, .int .u64 0, .string e0] 52); have HP7 := Lib.hid (HP5.out.below hb7 (Nat.le_refl _)); have HA7 := Lib.hid (HA5.out.below hb7 (Nat.le_refl _)); have HB7 := Lib.hid (HB5.out.below hb7 (Nat.le_refl _)); have HB07 := Lib.hid (below_add HB05.out hb7 HB05.out.size); have HQ7 := Lib.hid (HQL.out w6))
    | (go_at_call 15; with_reducible (refine (HSP.out _ _ _ HP7.out HQ7.out).mono ?_); rintro e w8 ⟨rfl, hb8⟩; have HP8 := Lib.hid (HP7.out.below hb8 (Nat.le_refl _)); have HA8 := Lib.hid (HA7.out.below hb8 (Nat.le_refl _)); have HB8 := Lib.hid (HB7.out.below hb8 (Nat.le_refl _)); have HB08 := Lib.hid (below_add HB07.out hb8 HB07.out.size))
    | (go_at_call 23; with_reducible (refine (HAP.out _ _ HA8.out HP8.out).mono ?_); rintro e w9 ⟨u9, rfl, ho9, hb9⟩; have HU9 := Lib.hid (Own5.row ho9); have HP9 := Lib.hid (HP8.out.below hb9 (Nat.le_refl _)); have HA9 := Lib.hid (HA8.out.below hb9 (Nat.le_refl _)); have HB9 := Lib.hid (HB8.out.below hb9 (Nat.le_refl _)); have HB09 := Lib.hid (below_add HB08.out hb9 HB08.out.size))
    | (go_at_call 22; with_reducible (refine (HSB.out _ _ HU9.out HB9.out).mono ?_); rintro e w10 ⟨rfl, q, rfl⟩; have hq := blw_drewN (Below.refl w9.heap.size w9) q; have HP10 := Lib.hid (HP9.out.below hq (Nat.le_refl _)); have HA10 := Lib.hid (HA9.out.below hq (Nat.le_refl _)); have HB10 := Lib.hid (HB9.out.below hq (Nat.le_refl _)); have HB010 := Lib.hid (below_add HB09.out hq HB09.out.size))
    | (go_at_call 25; with_reducible (refine (HIN.out _ _ HA10.out HP10.out).mono ?_); rintro e w11 ⟨u11, rfl, ho11, hb11⟩; have HU11 := Lib.hid (own6_row ho11); have HA11 := Lib.hid (HA10.out.below hb11 (Nat.le_refl _)); have HB11 := Lib.hid (HB10.out.below hb11 (Nat.le_refl _)); have HB011 := Lib.hid (below_add HB010.out hb11 HB010.out.size))
    | (go_at_call 23; with_reducible (refine (HBK.out _ _ HB11.out HU11.out).mono ?_); rintro e w12 ⟨u12, rfl, ho12, hb12⟩; have HU12 := Lib.hid (Own5.row ho12); have HA12 := Lib.hid (HA11.out.below hb12 (Nat.le_refl _)); have HB012 := Lib.hid (below_add HB011.out hb12 HB011.out.size))
    | (go_at_call 22; with_reducible (refine (HSA.out _ _ HU12.out HA12.out).mono ?_); rintro e w13 ⟨rfl, q2, rfl⟩))
  go_ret
  exact ⟨rfl, blw_drewN HB012.out _⟩
end Go.Proofs.Ytkejebjppnhidaa
