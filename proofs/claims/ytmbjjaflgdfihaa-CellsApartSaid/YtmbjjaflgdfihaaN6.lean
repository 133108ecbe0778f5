
import Derived.Test.YtmbjjaflgdfihaaN5
/- N6: rows of ops held side by side -/
namespace Go.Proofs.Ytmbjjaflgdfihaa
open Go.RowKit
set_option linter.unusedVariables false
set_option maxRecDepth 100000

theorem map_step {ys zs : List Oz} {k : Nat} (h1 : k < ys.length) (h2 : k < zs.length) (h : (ys.take k).map Oz.o = (zs.take k).map Oz.o) (he : ys[k].o = zs[k].o) : (ys.take (k + 1)).map Oz.o = (zs.take (k + 1)).map Oz.o := by
  rw [tsnoc h1, tsnoc h2, List.map_append, List.map_append, h, List.map_singleton, List.map_singleton, he]
theorem map_bad {ys zs : List Oz} {k : Nat} (h1 : k < ys.length) (h2 : k < zs.length) (he : ¬ ys[k].o = zs[k].o) : ¬ ys.map Oz.o = zs.map Oz.o := fun h => he (by
  have e1 : (ys.map Oz.o)[k]? = some ys[k].o := by rw [List.getElem?_map, List.getElem?_eq_getElem h1]; rfl
  have e2 : (zs.map Oz.o)[k]? = some zs[k].o := by rw [List.getElem?_map, List.getElem?_eq_getElem h2]; rfl
  rw [h, e2] at e1
  exact (Option.some.inj e1).symm)
theorem map_end {ys zs : List Oz} (hl : ys.length = zs.length) (h : (ys.take ys.length).map Oz.o = (zs.take ys.length).map Oz.o) : ys.map Oz.o = zs.map Oz.o := by
  rw [List.take_of_length_le (Nat.le_refl _), hl, List.take_of_length_le (Nat.le_refl _)] at h
  exact h
theorem sameOp_b (b : Bool) (y z : Oz) (w : World) (hy : OpOk w y) (hz : OpOk w z) (h : decide (y.o = z.o) = b) :
    Calls Try.prog 26 #[y.v, z.v] w fun e w' => e = .returned (.bool b) ∧ Below w.heap.size w w' := by
  subst h
  exact sameOp_any y z w hy hz
theorem same_enters : ∀ args w, (callFunc 26 args).run Try.prog w = .ok (.enter 26 args) w := enters_of Try.func26 (by kernel_rfl) rfl

set_option maxHeartbeats 2000000 in
theorem eqFunc_any (u v : Value) (ys zs : List Oz) (w : World) (hu : Orow w u ys) (hv : Orow w v zs) :
    Calls Try.prog 25 #[u, v, .func (.func 26) #[] #[]] w fun e w' => e = .returned (.bool (decide (ys.map Oz.o = zs.map Oz.o))) ∧ Below w.heap.size w w' := by
  have hl1 := hu.len
  have hl2 := hv.len
  have eg := same_enters
  obtain ⟨a1, cap1, rfl⟩ := hu.shape
  obtain ⟨a2, cap2, rfl⟩ := hv.shape
  by_cases hl : ys.length = zs.length
  · by_cases h0 : 0 < ys.length
    · obtain ⟨b1, o1, rfl, -, -, -, -, hat1⟩ := hu.row.ats h0
      obtain ⟨b2, o2, rfl, -, -, -, -, hat2⟩ := hv.row.ats (by omega)
      have H1 := Lib.hid hat1
      have H2 := Lib.hid hat2
      have K1 := Lib.hid hu.ok
      have K2 := Lib.hid hv.ok
      have HL := Lib.hid hl
      clear hat1 hat2 hu hv
      rw [← hl]
      clear hl hl2
      go_enter Try.func25, Try.ntmps25
      go_wp2
      go_loopw [17] (fun i wr => ∃ k : Nat, k ≤ ys.length ∧ i = .int .i64 k ∧ Hid ((ys.take k).map Oz.o = (zs.take k).map Oz.o ∧ Below w.heap.size w wr)) (fun i _ => ys.length - (intOf i).toNat)
      case atStart => exact ⟨0, Nat.zero_le _, rfl, Lib.hid ⟨rfl, Below.refl _ _⟩⟩
      case round =>
        obtain ⟨k, hk, rfl, HP⟩ := hrel
        by_cases hlt : k < ys.length
        · have hlt2 : k < zs.length := by rw [← HL.out]; exact hlt
          have c := (H1.out k hlt).below HP.out.2
          have d := ((H2.out k hlt2).below HP.out.2).below (kbelow_one wr (.cells ys[k].cs 51))
          have HB := Lib.hid HP.out.2
          have HB2 := Lib.hid (below_add HP.out.2 (kbelow_two wr (.cells ys[k].cs 51) (.cells zs[k].cs 51)) HP.out.2.size)
          have HQ := Lib.hid (fun b => sameOp_b b ys[k] zs[k] _ ((K1.out _ (List.getElem_mem hlt)).below HB2.out) ((K2.out _ (List.getElem_mem hlt2)).below HB2.out))
          have HLT := Lib.hid hlt
          by_cases hxy : ys[k].o = zs[k].o
          · have HS := Lib.hid (map_step hlt hlt2 HP.out.1 hxy)
            have HQ := Lib.hid (HQ.out true (decide_eq_true hxy))
            clear hxy HP
            generalize ys[k] = y at *
            generalize zs[k] = z at *
            obtain ⟨c0, c1, c2, c3, c4⟩ := c
            obtain ⟨d0, d1, d2, d3, d4⟩ := d
            go_wp2_with (go_at_fn 26; (with_reducible refine (HQ.out).mono ?_); rintro e w1 ⟨rfl, hb⟩; have HB3 := Lib.hid (below_add HB2.out hb HB2.out.size); clear hb)
            go_roundw
            case rel => exact ⟨k + 1, HLT.out, by go_num, Lib.hid ⟨HS.out, HB3.out⟩⟩
            case measure => have := HLT.out; simp [intOf]; omega
          · have HS := Lib.hid (map_bad hlt hlt2 hxy)
            have HQ := Lib.hid (HQ.out false (decide_eq_false hxy))
            clear hxy HP
            generalize ys[k] = y at *
            generalize zs[k] = z at *
            obtain ⟨c0, c1, c2, c3, c4⟩ := c
            obtain ⟨d0, d1, d2, d3, d4⟩ := d
            go_wp2_with (go_at_fn 26; (with_reducible refine (HQ.out).mono ?_); rintro e w1 ⟨rfl, hb⟩; have HB3 := Lib.hid (below_add HB2.out hb HB2.out.size); clear hb)
            go_ret
            exact ⟨dec_no HS.out, HB3.out⟩
        · obtain rfl : k = ys.length := by omega
          have HE := Lib.hid (map_end HL.out HP.out.1)
          have HB := Lib.hid HP.out.2
          clear HP
          go_wp2
          go_ret
          exact ⟨dec_yes HE.out, HB.out⟩
    · obtain rfl : ys = [] := List.eq_nil_of_length_eq_zero (by omega)
      obtain rfl : zs = [] := List.eq_nil_of_length_eq_zero (by simpa using hl.symm)
      clear hu hv h0 hl hl1 hl2
      go_enter Try.func25, Try.ntmps25
      go_wp2
      refine wp_loop_rounds 1 ?_
      rw [rounds_succ]
      go_wp2
      go_ret
      exact ⟨rfl, Below.refl _ _⟩
  · have HN := Lib.hid (show ¬ ys.map Oz.o = zs.map Oz.o from fun h => hl (by have := congrArg List.length h; simpa using this))
    have e1 : ((ys.length : Int) != (zs.length : Int)) = true := by simp; omega
    clear hu hv
    go_enter Try.func25, Try.ntmps25
    go_wp2
    go_ret
    exact ⟨dec_no HN.out, Below.refl _ _⟩
theorem osame_any (u v : Value) (ys zs : List Oz) (w : World) (hu : Orow w u ys) (hv : Orow w v zs) :
    Calls Try.prog 9 #[u, v] w fun e w' => e = .returned (.bool (decide (ys.map Oz.o = zs.map Oz.o))) ∧ Below w.heap.size w w' := by
  have HQ := Lib.hid (eqFunc_any u v ys zs w hu hv)
  generalize decide (ys.map Oz.o = zs.map Oz.o) = b at *
  clear hu hv
  go_enter Try.func9, Try.ntmps9
  go_wp2_with (go_at_call 25; (with_reducible refine (HQ.out).mono ?_); rintro e w1 ⟨rfl, hb⟩)
  go_ret
  exact ⟨rfl, hb⟩
end Go.Proofs.Ytmbjjaflgdfihaa
