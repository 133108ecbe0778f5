
import Derived.Test.YtmbjjaflgdfihaaN4
/- N5: two ops, two rows of ops, held side by side -/
namespace Go.Proofs.Ytmbjjaflgdfihaa
open Go.RowKit
set_option linter.unusedVariables false
set_option maxRecDepth 100000

theorem iequal_b (v1 v2 : Value) (xs ys : List Int) (w : World) (hv1 : Ints .i32 w v1 xs) (hv2 : Ints .i32 w v2 ys) :
    Calls Try.prog 38 #[v1, v2] w fun e w' => e = .returned (.bool (decide (xs = ys))) ∧ Below w.heap.size w w' :=
  (iequal_any v1 v2 xs ys w hv1 hv2).mono fun e w' ⟨he, n, hn⟩ => ⟨he, by rw [hn]; exact blw_drewN (Below.refl _ _) n⟩
theorem isame_b (v1 v2 : Value) (xs ys : List Int) (w : World) (hv1 : Ints .i32 w v1 xs) (hv2 : Ints .i32 w v2 ys) :
    Calls Try.prog 11 #[v1, v2] w fun e w' => e = .returned (.bool (decide (xs = ys))) ∧ Below w.heap.size w w' :=
  (same_any v1 v2 xs ys w hv1 hv2).mono fun e w' ⟨he, n, hn⟩ => ⟨he, by rw [hn]; exact blw_drewN (Below.refl _ _) n⟩
theorem opn_eq {y z : Oz} : y.o = z.o ↔ y.k = z.k ∧ y.n = z.n ∧ y.rs = z.rs ∧ y.st = z.st ∧ y.pt = z.pt := by
  unfold Oz.o
  rw [Opn.mk.injEq]

theorem opn_dec (y z : Oz) : decide (y.o = z.o) = (decide (y.k = z.k) && (decide (y.n = z.n) && (decide (y.rs = z.rs) && (decide (y.st = z.st) && decide (y.pt = z.pt))))) := by
  by_cases h : y.o = z.o
  · obtain ⟨h1, h2, h3, h4, h5⟩ := opn_eq.1 h
    rw [decide_eq_true h, decide_eq_true h1, decide_eq_true h2, decide_eq_true h3, decide_eq_true h4, decide_eq_true h5]; rfl
  · rw [decide_eq_false h]
    symm
    simp only [← Bool.decide_and]
    rw [decide_eq_false_iff_not]
    exact fun hh => h (opn_eq.2 hh)

set_option maxHeartbeats 2000000 in
theorem sameOp_any (y z : Oz) (w : World) (hy : OpOk w y) (hz : OpOk w z) :
    Calls Try.prog 26 #[y.v, z.v] w fun e w' => e = .returned (.bool (decide (y.o = z.o))) ∧ Below w.heap.size w w' := by
  have HB := Lib.hid (below_add (kbelow_one w (.cells y.cs 51)) (kbelow_one _ (.cells z.cs 51)) (kbelow_one w (.cells y.cs 51)).size)
  have HX := Lib.hid ((OAt.new w y 51).below (kbelow_one _ (.cells z.cs 51)))
  have HY := Lib.hid (OAt.new (w.alloc (.cells y.cs 51)) z 51)
  have HR := Lib.hid (fun W (hb : Below w.heap.size w W) => iequal_b y.rv z.rv y.rs z.rs W (hy.r.below hb) (hz.r.below hb))
  have HS := Lib.hid (fun W (hb : Below w.heap.size w W) => same_any5 y.sv z.sv y.st z.st W (hy.s.below hb (Nat.le_refl _)) (hz.s.below hb (Nat.le_refl _)))
  have HP := Lib.hid (fun W (hb : Below w.heap.size w W) => same_any6 y.pv z.pv y.pt z.pt W (hy.p.below hb (Nat.le_refl _)) (hz.p.below hb (Nat.le_refl _)))
  rw [opn_dec y z]
  rw [World.size_alloc] at HY
  clear hy hz
  obtain ⟨yk, yn, yra, yrc, yrs, ysa, ysc, yst, ypa, ypc, ypt⟩ := y
  obtain ⟨zk, zn, zra, zrc, zrs, zsa, zsc, zst, zpa, zpc, zpt⟩ := z
  simp only [Oz.rv, Oz.sv, Oz.pv, Oz.cs, Oz.v] at *
  generalize decide (yrs = zrs) = b3 at *
  generalize decide (yst = zst) = b4 at *
  generalize decide (ypt = zpt) = b5 at *

  by_cases e1 : yk = zk
  rotate_left
  · have q1 : (yk == zk) = false := by simpa using e1
    rw [decide_eq_false e1]
    clear e1
    go_enter Try.func26, Try.ntmps26
    go_wp2
    go_ret
    exact ⟨rfl, HB.out⟩
  subst e1
  by_cases e2 : yn = zn
  rotate_left
  · have q2 : (yn == zn) = false := by simpa using e2
    rw [decide_eq_true (rfl : yk = yk), decide_eq_false e2]
    clear e2
    go_enter Try.func26, Try.ntmps26
    go_wp2
    go_ret
    exact ⟨rfl, HB.out⟩
  subst e2
  rw [decide_eq_true (rfl : yk = yk), decide_eq_true (rfl : yn = yn)]
  cases b3
  · skip
    go_enter Try.func26, Try.ntmps26
    go_wp2_with (first
      | (go_at_call 38; (with_reducible refine (HR.out _ HB.out).mono ?_); rintro e w1 ⟨rfl, hb⟩; have HB1 := Lib.hid (below_add HB.out hb HB.out.size); obtain ⟨c0, c1, c2, c3, c4⟩ := HX.out.below hb; obtain ⟨d0, d1, d2, d3, d4⟩ := HY.out.below hb; have HX1 := Lib.hid (HX.out.below hb); have HY1 := Lib.hid (HY.out.below hb); clear hb))
    go_ret
    exact ⟨rfl, HB1.out⟩
  cases b4
  · skip
    go_enter Try.func26, Try.ntmps26
    go_wp2_with (first
      | (go_at_call 38; (with_reducible refine (HR.out _ HB.out).mono ?_); rintro e w1 ⟨rfl, hb⟩; have HB1 := Lib.hid (below_add HB.out hb HB.out.size); obtain ⟨c0, c1, c2, c3, c4⟩ := HX.out.below hb; obtain ⟨d0, d1, d2, d3, d4⟩ := HY.out.below hb; have HX1 := Lib.hid (HX.out.below hb); have HY1 := Lib.hid (HY.out.below hb); clear hb)
      | (go_at_call 24; (with_reducible refine (HS.out _ HB1.out).mono ?_); rintro e w2 ⟨rfl, hb⟩; have HB2 := Lib.hid (below_add HB1.out hb HB1.out.size); obtain ⟨c0, c1, c2, c3, c4⟩ := HX1.out.below hb; obtain ⟨d0, d1, d2, d3, d4⟩ := HY1.out.below hb; clear hb))
    go_ret
    exact ⟨rfl, HB2.out⟩
  cases b5
  · skip
    go_enter Try.func26, Try.ntmps26
    go_wp2_with (first
      | (go_at_call 38; (with_reducible refine (HR.out _ HB.out).mono ?_); rintro e w1 ⟨rfl, hb⟩; have HB1 := Lib.hid (below_add HB.out hb HB.out.size); obtain ⟨c0, c1, c2, c3, c4⟩ := HX.out.below hb; obtain ⟨d0, d1, d2, d3, d4⟩ := HY.out.below hb; have HX1 := Lib.hid (HX.out.below hb); have HY1 := Lib.hid (HY.out.below hb); clear hb)
      | (go_at_call 24; (with_reducible refine (HS.out _ HB1.out).mono ?_); rintro e w2 ⟨rfl, hb⟩; have HB2 := Lib.hid (below_add HB1.out hb HB1.out.size); obtain ⟨c0, c1, c2, c3, c4⟩ := HX1.out.below hb; obtain ⟨d0, d1, d2, d3, d4⟩ := HY1.out.below hb; clear hb)
      | (go_at_call 39; (with_reducible refine (HP.out _ HB2.out).mono ?_); rintro e w3 ⟨rfl, hb⟩; have HB3 := Lib.hid (below_add HB2.out hb HB2.out.size); clear hb))
    go_ret
    exact ⟨rfl, HB3.out⟩
  · skip
    go_enter Try.func26, Try.ntmps26
    go_wp2_with (first
      | (go_at_call 38; (with_reducible refine (HR.out _ HB.out).mono ?_); rintro e w1 ⟨rfl, hb⟩; have HB1 := Lib.hid (below_add HB.out hb HB.out.size); obtain ⟨c0, c1, c2, c3, c4⟩ := HX.out.below hb; obtain ⟨d0, d1, d2, d3, d4⟩ := HY.out.below hb; have HX1 := Lib.hid (HX.out.below hb); have HY1 := Lib.hid (HY.out.below hb); clear hb)
      | (go_at_call 24; (with_reducible refine (HS.out _ HB1.out).mono ?_); rintro e w2 ⟨rfl, hb⟩; have HB2 := Lib.hid (below_add HB1.out hb HB1.out.size); obtain ⟨c0, c1, c2, c3, c4⟩ := HX1.out.below hb; obtain ⟨d0, d1, d2, d3, d4⟩ := HY1.out.below hb; clear hb)
      | (go_at_call 39; (with_reducible refine (HP.out _ HB2.out).mono ?_); rintro e w3 ⟨rfl, hb⟩; have HB3 := Lib.hid (below_add HB2.out hb HB2.out.size); clear hb))
    go_ret
    exact ⟨rfl, HB3.out⟩
end Go.Proofs.Ytmbjjaflgdfihaa
