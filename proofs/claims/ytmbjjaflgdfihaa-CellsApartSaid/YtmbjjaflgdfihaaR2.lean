
import Derived.Test.YtmbjjaflgdfihaaR1
import Derived.Test.YtmbjjaflgdfihaaN6
/- R2: two cells, two rows of cells, held side by side -/
namespace Go.Proofs.Ytmbjjaflgdfihaa
open Go.RowKit
set_option linter.unusedVariables false
set_option maxRecDepth 100000

theorem cl_dec (y z : Cz) : decide (y.o = z.o) = (decide (y.r = z.r) && decide (y.s = z.s)) := by
  by_cases h : y.o = z.o
  · obtain ⟨h1, h2⟩ := cl_eq.1 h
    rw [decide_eq_true h, decide_eq_true h1, decide_eq_true h2]; rfl
  · rw [decide_eq_false h]
    symm
    simp only [← Bool.decide_and]
    rw [decide_eq_false_iff_not]
    exact fun hh => h (cl_eq.2 hh)
set_option maxHeartbeats 2000000 in
theorem samec_any (b : Bool) (y z : Cz) (w : World) (hy : Arow w y.sv y.s) (hz : Arow w z.sv z.s) (hb : decide (y.o = z.o) = b) :
    Calls Try.prog 23 #[y.v, z.v] w fun e w' => e = .returned (.bool b) ∧ Below w.heap.size w w' := by
  have HB := Lib.hid (kbelow_two w (.cells y.cs 41) (.cells z.cs 41))
  have HX := Lib.hid ((CzAt.new w y 41).below (kbelow_one _ (.cells z.cs 41)))
  have HY := Lib.hid (CzAt.new (w.alloc (.cells y.cs 41)) z 41)
  have HS := Lib.hid (fun W (hb : Below w.heap.size w W) => same_any5 y.sv z.sv y.s z.s W (hy.below hb (Nat.le_refl _)) (hz.below hb (Nat.le_refl _)))
  rw [cl_dec y z] at hb
  rw [World.size_alloc] at HY
  clear hy hz
  obtain ⟨yr, ya, yc, ys⟩ := y
  obtain ⟨zr, za, zc, zs⟩ := z
  simp only [Cz.sv, Cz.cs, Cz.v, clcs] at *
  generalize decide (ys = zs) = b2 at *
  obtain ⟨c0, c1⟩ := HX.out
  obtain ⟨d0, d1⟩ := HY.out
  by_cases e1 : yr = zr
  · subst e1
    rw [decide_eq_true (rfl : yr = yr), Bool.true_and] at hb
    subst hb
    go_enter Try.func23, Try.ntmps23
    go_wp2_with (go_at_call 24; (with_reducible refine (HS.out _ HB.out).mono ?_); rintro e w1 ⟨rfl, hb⟩; have HB1 := Lib.hid (below_add HB.out hb HB.out.size); clear hb)
    go_ret
    exact ⟨rfl, HB1.out⟩
  · have q1 : (yr == zr) = false := by simpa using e1
    rw [decide_eq_false e1, Bool.false_and] at hb
    subst hb
    clear e1
    go_enter Try.func23, Try.ntmps23
    go_wp2
    go_ret
    exact ⟨rfl, HB.out⟩
theorem samec_enters : ∀ args w, (callFunc 23 args).run Try.prog w = .ok (.enter 23 args) w := enters_of Try.func23 (by kernel_rfl) rfl

set_option maxHeartbeats 2000000 in
theorem eqFuncC_any (u v : Value) (ys zs : List Cz) (w : World) (hu : Drow w u ys) (hv : Drow w v zs) :
    Calls Try.prog 22 #[u, v, .func (.func 23) #[] #[]] w fun e w' => e = .returned (.bool (decide (ys.map Cz.o = zs.map Cz.o))) ∧ Below w.heap.size w w' := by
  have hl1 := hu.len
  have hl2 := hv.len
  have eg := samec_enters
  obtain ⟨a1, cap1, rfl⟩ := hu.shape
  obtain ⟨a2, cap2, rfl⟩ := hv.shape
  by_cases hl : ys.length = zs.length
  · by_cases h0 : 0 < ys.length
    · obtain ⟨b1, o1, rfl, -, -, -, -, hat1⟩ := hu.ats h0
      obtain ⟨b2, o2, rfl, -, -, -, -, hat2⟩ := hv.ats (by omega)
      have H1 := Lib.hid hat1
      have H2 := Lib.hid hat2
      have K1 := Lib.hid hu.ok
      have K2 := Lib.hid hv.ok
      have HL := Lib.hid hl
      clear hat1 hat2 hu hv
      rw [← hl]
      clear hl hl2
      go_enter Try.func22, Try.ntmps22
      go_wp2
      go_loopw [17] (fun i wr => ∃ k : Nat, k ≤ ys.length ∧ i = .int .i64 k ∧ Hid ((ys.take k).map Cz.o = (zs.take k).map Cz.o ∧ Below w.heap.size w wr)) (fun i _ => ys.length - (intOf i).toNat)
      case atStart => exact ⟨0, Nat.zero_le _, rfl, Lib.hid ⟨rfl, Below.refl _ _⟩⟩
      case round =>
        obtain ⟨k, hk, rfl, HP⟩ := hrel
        by_cases hlt : k < ys.length
        · have hlt2 : k < zs.length := by rw [← HL.out]; exact hlt
          have c := (H1.out k hlt).below HP.out.2
          have d := ((H2.out k hlt2).below HP.out.2).below (kbelow_one wr (.cells ys[k].cs 41))
          have HB := Lib.hid HP.out.2
          have HB2 := Lib.hid (below_add HP.out.2 (kbelow_two wr (.cells ys[k].cs 41) (.cells zs[k].cs 41)) HP.out.2.size)
          have HQ := Lib.hid (fun b => samec_any b ys[k] zs[k] _ ((K1.out _ (List.getElem_mem hlt)).below HB2.out (Nat.le_refl _)) ((K2.out _ (List.getElem_mem hlt2)).below HB2.out (Nat.le_refl _)))
          have HLT := Lib.hid hlt
          by_cases hxy : ys[k].o = zs[k].o
          · have HS := Lib.hid (cmap_step hlt hlt2 HP.out.1 hxy)
            have HQ := Lib.hid (HQ.out true (decide_eq_true hxy))
            clear hxy HP
            generalize ys[k] = y at *
            generalize zs[k] = z at *
            obtain ⟨c0, c1⟩ := c
            obtain ⟨d0, d1⟩ := d
            go_wp2_with (go_at_fn 23; (with_reducible refine (HQ.out).mono ?_); rintro e w1 ⟨rfl, hb⟩; have HB3 := Lib.hid (below_add HB2.out hb HB2.out.size); clear hb)
            go_roundw
            case rel => exact ⟨k + 1, HLT.out, by go_num, Lib.hid ⟨HS.out, HB3.out⟩⟩
            case measure => have := HLT.out; simp [intOf]; omega
          · have HS := Lib.hid (cmap_bad hlt hlt2 hxy)
            have HQ := Lib.hid (HQ.out false (decide_eq_false hxy))
            clear hxy HP
            generalize ys[k] = y at *
            generalize zs[k] = z at *
            obtain ⟨c0, c1⟩ := c
            obtain ⟨d0, d1⟩ := d
            go_wp2_with (go_at_fn 23; (with_reducible refine (HQ.out).mono ?_); rintro e w1 ⟨rfl, hb⟩; have HB3 := Lib.hid (below_add HB2.out hb HB2.out.size); clear hb)
            go_ret
            exact ⟨dec_no HS.out, HB3.out⟩
        · obtain rfl : k = ys.length := by omega
          have HE := Lib.hid (cmap_end HL.out HP.out.1)
          have HB := Lib.hid HP.out.2
          clear HP
          go_wp2
          go_ret
          exact ⟨dec_yes HE.out, HB.out⟩
    · obtain rfl : ys = [] := List.eq_nil_of_length_eq_zero (by omega)
      obtain rfl : zs = [] := List.eq_nil_of_length_eq_zero (by simpa using hl.symm)
      clear hu hv h0 hl hl1 hl2
      go_enter Try.func22, Try.ntmps22
      go_wp2
      refine wp_loop_rounds 1 ?_
      rw [rounds_succ]
      go_wp2
      go_ret
      exact ⟨rfl, Below.refl _ _⟩
  · have HN := Lib.hid (show ¬ ys.map Cz.o = zs.map Cz.o from fun h => hl (by have := congrArg List.length h; simpa using this))
    have e1 : ((ys.length : Int) != (zs.length : Int)) = true := by simp; omega
    clear hu hv
    go_enter Try.func22, Try.ntmps22
    go_wp2
    go_ret
    exact ⟨dec_no HN.out, Below.refl _ _⟩
/-- cells.Same: whether the same cells stand in the same order. -/
theorem csame_any (u v : Value) (ys zs : List Cz) (w : World) (hu : Drow w u ys) (hv : Drow w v zs) :
    Calls Try.prog 8 #[u, v] w fun e w' => e = .returned (.bool (decide (ys.map Cz.o = zs.map Cz.o))) ∧ Below w.heap.size w w' := by
  have HQ := Lib.hid (eqFuncC_any u v ys zs w hu hv)
  generalize decide (ys.map Cz.o = zs.map Cz.o) = b at *
  clear hu hv
  go_enter Try.func8, Try.ntmps8
  go_wp2_with (go_at_call 22; (with_reducible refine (HQ.out).mono ?_); rintro e w1 ⟨rfl, hb⟩)
  go_ret
  exact ⟨rfl, hb⟩
end Go.Proofs.Ytmbjjaflgdfihaa
