
import Derived.Test.YtnggnfhaokkcmaaN6
/- N7: the reference's Same -/
namespace Go.Proofs.Ytnggnfhaokkcmaa
open Go.RowKit
set_option linter.unusedVariables false
set_option maxRecDepth 100000

theorem opn_no1 {y z : Oz} (h : ¬ y.k = z.k) : ¬ y.o = z.o := fun e => h (opn_eq.1 e).1
theorem opn_no2 {y z : Oz} (h : ¬ y.n = z.n) : ¬ y.o = z.o := fun e => h (opn_eq.1 e).2.1
theorem opn_no3 {y z : Oz} (h : ¬ y.rs = z.rs) : ¬ y.o = z.o := fun e => h (opn_eq.1 e).2.2.1
theorem opn_no4 {y z : Oz} (h : ¬ y.st = z.st) : ¬ y.o = z.o := fun e => h (opn_eq.1 e).2.2.2.1
theorem opn_no5 {y z : Oz} (h : ¬ y.pt = z.pt) : ¬ y.o = z.o := fun e => h (opn_eq.1 e).2.2.2.2
theorem isame_f (b : Bool) (v1 v2 : Value) (xs ys : List Int) (h : decide (xs = ys) = b) (w : World) (hv1 : Ints .i32 w v1 xs) (hv2 : Ints .i32 w v2 ys) :
    Calls Try.prog 29 #[v1, v2] w fun e w' => e = .returned (.bool b) ∧ Below w.heap.size w w' := by subst h; exact isame_b v1 v2 xs ys w hv1 hv2
theorem rsame5_f (b : Bool) (v1 v2 : Value) (xs ys : List Att) (h : decide (xs = ys) = b) (w : World) (hv1 : Arow w v1 xs) (hv2 : Arow w v2 ys) :
    Calls Try.prog 30 #[v1, v2] w fun e w' => e = .returned (.bool b) ∧ Below w.heap.size w w' := by subst h; exact rsame5_b v1 v2 xs ys w hv1 hv2
theorem rsame6_f (b : Bool) (v1 v2 : Value) (xs ys : List Chg) (h : decide (xs = ys) = b) (w : World) (hv1 : Crow w v1 xs) (hv2 : Crow w v2 ys) :
    Calls Try.prog 31 #[v1, v2] w fun e w' => e = .returned (.bool b) ∧ Below w.heap.size w w' := by subst h; exact rsame6_b v1 v2 xs ys w hv1 hv2

set_option maxHeartbeats 4000000 in
theorem rosame_any (u v : Value) (ys zs : List Oz) (w : World) (hu : Orow w u ys) (hv : Orow w v zs) :
    Calls Try.prog 14 #[u, v] w fun e w' => e = .returned (.bool (decide (ys.map Oz.o = zs.map Oz.o))) ∧ Below w.heap.size w w' := by
  have hl1 := hu.len
  have hl2 := hv.len
  obtain ⟨a1, cap1, rfl⟩ := hu.shape
  obtain ⟨a2, cap2, rfl⟩ := hv.shape
  by_cases hl : ys.length = zs.length
  · by_cases h0 : 0 < ys.length
    · obtain ⟨b1, o1, rfl, -, -, -, -, hat1⟩ := hu.row.ats h0
      obtain ⟨b2, o2, rfl, -, -, -, -, hat2⟩ := hv.row.ats (by omega)
      have H1 := Lib.hid hat1
      have H2 := Lib.hid hat2
      have K1 := Lib.hid hu.ok
      have K2 := Lib.hid hv.ok
      have HL := Lib.hid hl
      clear hat1 hat2 hu hv
      rw [← hl]
      clear hl hl2
      go_enter Try.func14, Try.ntmps14
      go_wp2
      go_loopw [5] (fun i wr => ∃ k : Nat, k ≤ ys.length ∧ i = .int .i64 k ∧ Hid ((ys.take k).map Oz.o = (zs.take k).map Oz.o ∧ Below w.heap.size w wr)) (fun i _ => ys.length - (intOf i).toNat)
      case atStart => exact ⟨0, Nat.zero_le _, rfl, Lib.hid ⟨rfl, Below.refl _ _⟩⟩
      case round =>
        obtain ⟨k, hk, rfl, HP⟩ := hrel
        by_cases hlt : k < ys.length
        · have hlt2 : k < zs.length := by rw [← HL.out]; exact hlt
          have HC := Lib.hid ((H1.out k hlt).below HP.out.2)
          have HD := Lib.hid ((H2.out k hlt2).below HP.out.2)
          have HST := Lib.hid (map_step hlt hlt2 HP.out.1)
          have HBD := Lib.hid (map_bad hlt hlt2)
          have KY := Lib.hid (K1.out _ (List.getElem_mem hlt))
          have KZ := Lib.hid (K2.out _ (List.getElem_mem hlt2))
          have HBR := Lib.hid HP.out.2
          have HLT := Lib.hid hlt
          clear HP
          generalize ys[k] = y at *
          generalize zs[k] = z at *
          have HR := Lib.hid (fun b (h : decide (y.rs = z.rs) = b) W (hb : Below w.heap.size w W) => isame_f b y.rv z.rv y.rs z.rs h W (KY.out.r.below hb) (KZ.out.r.below hb))
          have HS := Lib.hid (fun b (h : decide (y.st = z.st) = b) W (hb : Below w.heap.size w W) => rsame5_f b y.sv z.sv y.st z.st h W (KY.out.s.below hb (Nat.le_refl _)) (KZ.out.s.below hb (Nat.le_refl _)))
          have HP := Lib.hid (fun b (h : decide (y.pt = z.pt) = b) W (hb : Below w.heap.size w W) => rsame6_f b y.pv z.pv y.pt z.pt h W (KY.out.p.below hb (Nat.le_refl _)) (KZ.out.p.below hb (Nat.le_refl _)))
          have HB1 := Lib.hid (below_add HBR.out ((kbelow_two wr (.cells y.cs 34) (.cells z.cs 34)).drew) HBR.out.size)
          have HB2 := Lib.hid (below_add HBR.out ((kbelow_two wr (.cells z.cs 34) (.cells y.cs 34)).drew) HBR.out.size)
          have HX1 := Lib.hid (((OAt.new wr y 34).below (kbelow_one _ (.cells z.cs 34))).below (Below.refl _ _).drew)
          have HY1 := Lib.hid ((OAt.new (wr.alloc (.cells y.cs 34)) z 34).below (Below.refl _ _).drew)
          have HY2 := Lib.hid (((OAt.new wr z 34).below (kbelow_one _ (.cells y.cs 34))).below (Below.refl _ _).drew)
          have HX2 := Lib.hid ((OAt.new (wr.alloc (.cells z.cs 34)) y 34).below (Below.refl _ _).drew)
          rw [World.size_alloc] at HY1 HX2
          have hC0 := HC.out
          have hD0 := HD.out
          clear HC HD H1 H2 K1 K2 KY KZ HL
          go_wp2
          obtain ⟨c0, c1, c2, c3, c4⟩ := hC0
          obtain ⟨d0, d1, d2, d3, d4⟩ := hD0
          have n0 := World.new_ne _ _ c0
          have n1 := World.new_ne _ _ d0
          go_region_held3 (fun w' => OAt b1 (o1 + k * 5) y w' ∧ OAt b2 (o2 + k * 5) z w') ((repeat' apply And.intro) <;> go_keep) (fail)
          · have FX := HX1
            have FY := HY1
            have FB := HB1
            clear HX1 HX2 HY1 HY2 HB1 HB2 c0 c1 c2 c3 c4 d0 d1 d2 d3 d4 n0 n1
            by_cases e1 : y.k = z.k
            rotate_left
            · have HN := Lib.hid (HBD.out (opn_no1 e1))
              have q1 : (y.k == z.k) = false := by simpa using e1
              have q2 : (y.k != z.k) = true := by simpa using e1
              clear e1
              obtain ⟨c0, c1, c2, c3, c4⟩ := FX.out
              obtain ⟨d0, d1, d2, d3, d4⟩ := FY.out
              go_wp2
              go_ret
              exact ⟨dec_no HN.out, FB.out⟩
            have q1 : (y.k == z.k) = true := by simpa using e1
            have q2 : (y.k != z.k) = false := by simpa using e1
            by_cases e2 : y.n = z.n
            rotate_left
            · have HN := Lib.hid (HBD.out (opn_no2 e2))
              have q3 : (y.n == z.n) = false := by simpa using e2
              have q4 : (y.n != z.n) = true := by simpa using e2
              clear e1 e2
              obtain ⟨c0, c1, c2, c3, c4⟩ := FX.out
              obtain ⟨d0, d1, d2, d3, d4⟩ := FY.out
              go_wp2
              go_ret
              exact ⟨dec_no HN.out, FB.out⟩
            have q3 : (y.n == z.n) = true := by simpa using e2
            have q4 : (y.n != z.n) = false := by simpa using e2
            by_cases e3 : y.rs = z.rs
            rotate_left
            · have HN := Lib.hid (HBD.out (opn_no3 e3))
              have F3 := Lib.hid (HR.out false (decide_eq_false e3))
              clear e1 e2 e3
              obtain ⟨c0, c1, c2, c3, c4⟩ := FX.out
              obtain ⟨d0, d1, d2, d3, d4⟩ := FY.out
              clear HR HS HP
              go_wp2_with (first
                | (go_at_call 29; (with_reducible refine (F3.out _ FB.out).mono ?_); rintro e w1 ⟨rfl, hb⟩; have GB := Lib.hid (below_add FB.out hb FB.out.size); obtain ⟨c0, c1, c2, c3, c4⟩ := FX.out.below hb; obtain ⟨d0, d1, d2, d3, d4⟩ := FY.out.below hb; have GX := Lib.hid (FX.out.below hb); have GY := Lib.hid (FY.out.below hb); clear hb))
              go_ret
              exact ⟨dec_no HN.out, GB.out⟩
            have F3 := Lib.hid (HR.out true (decide_eq_true e3))
            by_cases e4 : y.st = z.st
            rotate_left
            · have HN := Lib.hid (HBD.out (opn_no4 e4))
              have F4 := Lib.hid (HS.out false (decide_eq_false e4))
              clear e1 e2 e3 e4
              obtain ⟨c0, c1, c2, c3, c4⟩ := FX.out
              obtain ⟨d0, d1, d2, d3, d4⟩ := FY.out
              clear HR HS HP
              go_wp2_with (first
                | (go_at_call 29; (with_reducible refine (F3.out _ FB.out).mono ?_); rintro e w1 ⟨rfl, hb⟩; have GB := Lib.hid (below_add FB.out hb FB.out.size); obtain ⟨c0, c1, c2, c3, c4⟩ := FX.out.below hb; obtain ⟨d0, d1, d2, d3, d4⟩ := FY.out.below hb; have GX := Lib.hid (FX.out.below hb); have GY := Lib.hid (FY.out.below hb); clear hb)
                | (go_at_call 30; (with_reducible refine (F4.out _ GB.out).mono ?_); rintro e w2 ⟨rfl, hb⟩; have LB := Lib.hid (below_add GB.out hb GB.out.size); obtain ⟨c0, c1, c2, c3, c4⟩ := GX.out.below hb; obtain ⟨d0, d1, d2, d3, d4⟩ := GY.out.below hb; clear hb))
              go_ret
              exact ⟨dec_no HN.out, LB.out⟩
            have F4 := Lib.hid (HS.out true (decide_eq_true e4))
            by_cases e5 : y.pt = z.pt
            rotate_left
            · have HN := Lib.hid (HBD.out (opn_no5 e5))
              have F5 := Lib.hid (HP.out false (decide_eq_false e5))
              clear e1 e2 e3 e4 e5
              obtain ⟨c0, c1, c2, c3, c4⟩ := FX.out
              obtain ⟨d0, d1, d2, d3, d4⟩ := FY.out
              clear HR HS HP
              go_wp2_with (first
                | (go_at_call 29; (with_reducible refine (F3.out _ FB.out).mono ?_); rintro e w1 ⟨rfl, hb⟩; have GB := Lib.hid (below_add FB.out hb FB.out.size); obtain ⟨c0, c1, c2, c3, c4⟩ := FX.out.below hb; obtain ⟨d0, d1, d2, d3, d4⟩ := FY.out.below hb; have GX := Lib.hid (FX.out.below hb); have GY := Lib.hid (FY.out.below hb); clear hb)
                | (go_at_call 30; (with_reducible refine (F4.out _ GB.out).mono ?_); rintro e w2 ⟨rfl, hb⟩; have LB := Lib.hid (below_add GB.out hb GB.out.size); obtain ⟨c0, c1, c2, c3, c4⟩ := GX.out.below hb; obtain ⟨d0, d1, d2, d3, d4⟩ := GY.out.below hb; clear hb)
                | (go_at_call 31; (with_reducible refine (F5.out _ LB.out).mono ?_); rintro e w3 ⟨rfl, hb⟩; have MB := Lib.hid (below_add LB.out hb LB.out.size); clear hb))
              go_ret
              exact ⟨dec_no HN.out, MB.out⟩
            have F5 := Lib.hid (HP.out true (decide_eq_true e5))
            have HN := Lib.hid (HST.out (opn_eq.2 ⟨e1, e2, e3, e4, e5⟩))
            clear e1 e2 e3 e4 e5 HR HS HP
            obtain ⟨c0, c1, c2, c3, c4⟩ := FX.out
            obtain ⟨d0, d1, d2, d3, d4⟩ := FY.out
            go_wp2_with (first
                | (go_at_call 29; (with_reducible refine (F3.out _ FB.out).mono ?_); rintro e w1 ⟨rfl, hb⟩; have GB := Lib.hid (below_add FB.out hb FB.out.size); obtain ⟨c0, c1, c2, c3, c4⟩ := FX.out.below hb; obtain ⟨d0, d1, d2, d3, d4⟩ := FY.out.below hb; have GX := Lib.hid (FX.out.below hb); have GY := Lib.hid (FY.out.below hb); clear hb)
                | (go_at_call 30; (with_reducible refine (F4.out _ GB.out).mono ?_); rintro e w2 ⟨rfl, hb⟩; have LB := Lib.hid (below_add GB.out hb GB.out.size); obtain ⟨c0, c1, c2, c3, c4⟩ := GX.out.below hb; obtain ⟨d0, d1, d2, d3, d4⟩ := GY.out.below hb; clear hb)
                | (go_at_call 31; (with_reducible refine (F5.out _ LB.out).mono ?_); rintro e w3 ⟨rfl, hb⟩; have MB := Lib.hid (below_add LB.out hb LB.out.size); clear hb))
            go_roundw
            case rel => exact ⟨k + 1, HLT.out, by go_num, Lib.hid ⟨HN.out, MB.out⟩⟩
            case measure => have := HLT.out; simp [intOf]; omega
          · have FX := HX2
            have FY := HY2
            have FB := HB2
            clear HX1 HX2 HY1 HY2 HB1 HB2 c0 c1 c2 c3 c4 d0 d1 d2 d3 d4 n0 n1
            by_cases e1 : y.k = z.k
            rotate_left
            · have HN := Lib.hid (HBD.out (opn_no1 e1))
              have q1 : (y.k == z.k) = false := by simpa using e1
              have q2 : (y.k != z.k) = true := by simpa using e1
              clear e1
              obtain ⟨c0, c1, c2, c3, c4⟩ := FX.out
              obtain ⟨d0, d1, d2, d3, d4⟩ := FY.out
              go_wp2
              go_ret
              exact ⟨dec_no HN.out, FB.out⟩
            have q1 : (y.k == z.k) = true := by simpa using e1
            have q2 : (y.k != z.k) = false := by simpa using e1
            by_cases e2 : y.n = z.n
            rotate_left
            · have HN := Lib.hid (HBD.out (opn_no2 e2))
              have q3 : (y.n == z.n) = false := by simpa using e2
              have q4 : (y.n != z.n) = true := by simpa using e2
              clear e1 e2
              obtain ⟨c0, c1, c2, c3, c4⟩ := FX.out
              obtain ⟨d0, d1, d2, d3, d4⟩ := FY.out
              go_wp2
              go_ret
              exact ⟨dec_no HN.out, FB.out⟩
            have q3 : (y.n == z.n) = true := by simpa using e2
            have q4 : (y.n != z.n) = false := by simpa using e2
            by_cases e3 : y.rs = z.rs
            rotate_left
            · have HN := Lib.hid (HBD.out (opn_no3 e3))
              have F3 := Lib.hid (HR.out false (decide_eq_false e3))
              clear e1 e2 e3
              obtain ⟨c0, c1, c2, c3, c4⟩ := FX.out
              obtain ⟨d0, d1, d2, d3, d4⟩ := FY.out
              clear HR HS HP
              go_wp2_with (first
                | (go_at_call 29; (with_reducible refine (F3.out _ FB.out).mono ?_); rintro e w1 ⟨rfl, hb⟩; have GB := Lib.hid (below_add FB.out hb FB.out.size); obtain ⟨c0, c1, c2, c3, c4⟩ := FX.out.below hb; obtain ⟨d0, d1, d2, d3, d4⟩ := FY.out.below hb; have GX := Lib.hid (FX.out.below hb); have GY := Lib.hid (FY.out.below hb); clear hb))
              go_ret
              exact ⟨dec_no HN.out, GB.out⟩
            have F3 := Lib.hid (HR.out true (decide_eq_true e3))
            by_cases e4 : y.st = z.st
            rotate_left
            · have HN := Lib.hid (HBD.out (opn_no4 e4))
              have F4 := Lib.hid (HS.out false (decide_eq_false e4))
              clear e1 e2 e3 e4
              obtain ⟨c0, c1, c2, c3, c4⟩ := FX.out
              obtain ⟨d0, d1, d2, d3, d4⟩ := FY.out
              clear HR HS HP
              go_wp2_with (first
                | (go_at_call 29; (with_reducible refine (F3.out _ FB.out).mono ?_); rintro e w1 ⟨rfl, hb⟩; have GB := Lib.hid (below_add FB.out hb FB.out.size); obtain ⟨c0, c1, c2, c3, c4⟩ := FX.out.below hb; obtain ⟨d0, d1, d2, d3, d4⟩ := FY.out.below hb; have GX := Lib.hid (FX.out.below hb); have GY := Lib.hid (FY.out.below hb); clear hb)
                | (go_at_call 30; (with_reducible refine (F4.out _ GB.out).mono ?_); rintro e w2 ⟨rfl, hb⟩; have LB := Lib.hid (below_add GB.out hb GB.out.size); obtain ⟨c0, c1, c2, c3, c4⟩ := GX.out.below hb; obtain ⟨d0, d1, d2, d3, d4⟩ := GY.out.below hb; clear hb))
              go_ret
              exact ⟨dec_no HN.out, LB.out⟩
            have F4 := Lib.hid (HS.out true (decide_eq_true e4))
            by_cases e5 : y.pt = z.pt
            rotate_left
            · have HN := Lib.hid (HBD.out (opn_no5 e5))
              have F5 := Lib.hid (HP.out false (decide_eq_false e5))
              clear e1 e2 e3 e4 e5
              obtain ⟨c0, c1, c2, c3, c4⟩ := FX.out
              obtain ⟨d0, d1, d2, d3, d4⟩ := FY.out
              clear HR HS HP
              go_wp2_with (first
                | (go_at_call 29; (with_reducible refine (F3.out _ FB.out).mono ?_); rintro e w1 ⟨rfl, hb⟩; have GB := Lib.hid (below_add FB.out hb FB.out.size); obtain ⟨c0, c1, c2, c3, c4⟩ := FX.out.below hb; obtain ⟨d0, d1, d2, d3, d4⟩ := FY.out.below hb; have GX := Lib.hid (FX.out.below hb); have GY := Lib.hid (FY.out.below hb); clear hb)
                | (go_at_call 30; (with_reducible refine (F4.out _ GB.out).mono ?_); rintro e w2 ⟨rfl, hb⟩; have LB := Lib.hid (below_add GB.out hb GB.out.size); obtain ⟨c0, c1, c2, c3, c4⟩ := GX.out.below hb; obtain ⟨d0, d1, d2, d3, d4⟩ := GY.out.below hb; clear hb)
                | (go_at_call 31; (with_reducible refine (F5.out _ LB.out).mono ?_); rintro e w3 ⟨rfl, hb⟩; have MB := Lib.hid (below_add LB.out hb LB.out.size); clear hb))
              go_ret
              exact ⟨dec_no HN.out, MB.out⟩
            have F5 := Lib.hid (HP.out true (decide_eq_true e5))
            have HN := Lib.hid (HST.out (opn_eq.2 ⟨e1, e2, e3, e4, e5⟩))
            clear e1 e2 e3 e4 e5 HR HS HP
            obtain ⟨c0, c1, c2, c3, c4⟩ := FX.out
            obtain ⟨d0, d1, d2, d3, d4⟩ := FY.out
            go_wp2_with (first
                | (go_at_call 29; (with_reducible refine (F3.out _ FB.out).mono ?_); rintro e w1 ⟨rfl, hb⟩; have GB := Lib.hid (below_add FB.out hb FB.out.size); obtain ⟨c0, c1, c2, c3, c4⟩ := FX.out.below hb; obtain ⟨d0, d1, d2, d3, d4⟩ := FY.out.below hb; have GX := Lib.hid (FX.out.below hb); have GY := Lib.hid (FY.out.below hb); clear hb)
                | (go_at_call 30; (with_reducible refine (F4.out _ GB.out).mono ?_); rintro e w2 ⟨rfl, hb⟩; have LB := Lib.hid (below_add GB.out hb GB.out.size); obtain ⟨c0, c1, c2, c3, c4⟩ := GX.out.below hb; obtain ⟨d0, d1, d2, d3, d4⟩ := GY.out.below hb; clear hb)
                | (go_at_call 31; (with_reducible refine (F5.out _ LB.out).mono ?_); rintro e w3 ⟨rfl, hb⟩; have MB := Lib.hid (below_add LB.out hb LB.out.size); clear hb))
            go_roundw
            case rel => exact ⟨k + 1, HLT.out, by go_num, Lib.hid ⟨HN.out, MB.out⟩⟩
            case measure => have := HLT.out; simp [intOf]; omega
        · obtain rfl : k = ys.length := by omega
          have HE := Lib.hid (map_end HL.out HP.out.1)
          have HB := Lib.hid HP.out.2
          clear HP
          go_wp2
          go_ret
          exact ⟨dec_yes HE.out, HB.out⟩
    · obtain rfl : ys = [] := List.eq_nil_of_length_eq_zero (by omega)
      obtain rfl : zs = [] := List.eq_nil_of_length_eq_zero (by simpa using hl.symm)
      clear hu hv h0 hl hl1 hl2
      go_enter Try.func14, Try.ntmps14
      go_wp2
      refine wp_loop_rounds 1 ?_
      rw [rounds_succ]
      go_wp2
      go_ret
      exact ⟨rfl, Below.refl _ _⟩
  · have HN := Lib.hid (show ¬ ys.map Oz.o = zs.map Oz.o from fun h => hl (by have := congrArg List.length h; simpa using this))
    have e1 : ((ys.length : Int) != (zs.length : Int)) = true := by simp; omega
    clear hu hv
    go_enter Try.func14, Try.ntmps14
    go_wp2
    go_ret
    exact ⟨dec_no HN.out, Below.refl _ _⟩
end Go.Proofs.Ytnggnfhaokkcmaa
