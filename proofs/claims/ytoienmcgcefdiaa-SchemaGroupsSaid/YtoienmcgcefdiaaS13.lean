
import Derived.Test.YtoienmcgcefdiaaS12
/- S15: the reference's Group; has -/
namespace Go.Proofs.Ytoienmcgcefdiaa
open Go.RowKit
set_option linter.unusedVariables false

theorem cell_new0 (w : World) (u : Value) (t : TypeId) : ∀ j v, [u][j]? = some v → (w.alloc (.cells #[u] t)).cell? ((⟨w.heap.size, 0, none⟩ : Addr).add j) = some v := by
  intro j v hv
  rw [Go.WideShapes.add_plain, Nat.zero_add, cell_of_row (w.alloc (.cells #[u] t)) w.heap.size j _ t (0, 0) (heap_alloc_new w _), ← hv]
  simp

set_option maxRecDepth 100000 in
set_option maxHeartbeats 1000000 in
theorem rgroup_any (v : Value) (ks : List Key) (id : Int) (w : World) (hv : Krow w v ks) (hl : ks.length ≤ 64) (hg : Good ks) :
    Calls Try.prog 16 #[v, .int .i64 id] w (GroupPost (grpOf ks id) w) := by
  have HF := rfind_any v ks id w hv
  have HV := Lib.hid hv
  have HK := fun w1 o (hb1 : Below w.heap.size w w1) => rkeys_any v ks (w1.alloc o) (HV.out.below (hb1.alloc hb1.size o) (Nat.le_refl _))
  have HK := Lib.hid HK
  cases hf : fnd ks id with
  | none =>
    rw [fndV_none hf] at HF
    have HE := Lib.hid (grpOf_none hf)
    have HF := Lib.hid HF
    clear hf hv
    go_enter Try.func16, Try.ntmps16
    go_wp2_with (first
      | (go_at_call 14; ((with_reducible refine HF.out.mono ?_); rintro e w1 ⟨rfl, hb1⟩))
      | (go_at_call 11; refine (HK.out _ _ hb1).mono ?_; rintro e w2 ⟨lv, rfl, hown2, hb2⟩))
    refine wp_loop_rounds 1 ?_
    rw [rounds_succ]
    go_wp2
    go_ret
    exact group_nil _ _ _ HE.out (below_add (hb1.alloc hb1.size _) hb2 (hb1.alloc hb1.size _).size)
  | some k =>
    rw [fndV_some hf] at HF
    have HF := Lib.hid HF
    by_cases h0 : k.grp = 0
    · have HE := Lib.hid (grpOf_zero hf h0)
      clear hf hv
      obtain ⟨k1, k2, k3, k4, k5, k6⟩ := k
      simp only at h0
      subst h0
      go_enter Try.func16, Try.ntmps16
      go_wp2_with (first
        | (go_at_call 14; ((with_reducible refine HF.out.mono ?_); rintro e w1 ⟨rfl, hb1⟩))
        | (go_at_call 11; refine (HK.out _ _ hb1).mono ?_; rintro e w2 ⟨lv, rfl, hown2, hb2⟩; obtain ⟨d0, d1, d2, d3, d4, d5⟩ := (KBox.box ⟨k1, k2, k3, k4, k5, 0⟩ w1 32).below hb2 (by simp)))
      refine wp_loop_rounds 1 ?_
      rw [rounds_succ]
      go_wp2
      go_ret
      exact group_nil _ _ _ HE.out (below_add (hb1.alloc hb1.size _) hb2 (hb1.alloc hb1.size _).size)
    · have HE := Lib.hid (grpOf_sel hf h0)
      have hrl := rising_length hg
      have hpos : 0 < ks.length := List.length_pos_iff.2 (fun e => by rw [e] at hf; cases hf)
      obtain ⟨i0, hi, hz0, hz1, hz2⟩ := info_parts infoInt
      generalize hrs : rising ks = rs at HE hrl
      have HRS := Lib.hid hrs
      clear hrs hf hv
      obtain ⟨k1, k2, k3, k4, k5, k6⟩ := k
      have e6 : (k6 != 0) = true := by simpa using h0
      clear h0
      have hrl2 : rs.length ≤ 64 := by omega
      have hrl0 : 0 < rs.length := by omega
      clear hrl
      go_enter Try.func16, Try.ntmps16
      go_wp2_with (first
        | (go_at_call 14; ((with_reducible refine HF.out.mono ?_); rintro e w1 ⟨rfl, hb1⟩))
        | (go_at_call 11; refine (HK.out _ _ hb1).mono ?_; rintro e w2 ⟨lv, he, hown2, hb2⟩; rw [HRS.out] at hown2; obtain ⟨la, lcap, rfl⟩ := (Krow.of_owns hown2).1.shape; obtain ⟨b, off, rfl, -, -, -, hbl, hat⟩ := (Krow.of_owns hown2).1.opened hrl0; subst he))
      have hkb := (KBox.box ⟨k1, k2, k3, k4, k5, k6⟩ w1 32).below hb2 (by simp)
      have hB := below_add (hb1.alloc hb1.size _) hb2 (hb1.alloc hb1.size _).size
      have hat := Lib.hid hat
      have hkl := World.block_lt_of_cell? _ _ hkb.1
      have hkg := hkb.2.2.2.2.2
      simp only at hkl hkg
      clear hown2 hb2 hkb
      generalize w1.heap.size = B5 at hkl hkg
      go_loopw [5, 9] (fun v i wr => ∃ j : Nat, j ≤ rs.length ∧ i = .int .i64 j ∧ GrpRel w2 k6 id rs j v wr) (fun _ i _ => rs.length - (intOf i).toNat)
      case atStart => exact ⟨0, Nat.zero_le _, rfl, grp_init w2 k6 id rs⟩
      case round =>
        obtain ⟨j, hj, rfl, hR⟩ := hrel
        have hk5 := (hR.2.cell (p := ⟨B5, 5, none⟩) hkl).trans hkg
        by_cases hlt : j < rs.length
        · obtain ⟨c0, c1, c2, c3, c4, c5⟩ := (hat.out j hlt).below hR.2 hbl
          have hbs := hR.2.size
          have hown := hR.1
          have hsl : (sel k6 id (rs.take j)).length ≤ 64 := by
            have := sel_len k6 id (rs.take j)
            rw [List.length_take] at this
            omega
          have hsk := fun hp wx hx => grp_skip0 hR hlt hp wx hx
          have htk := fun hp w3 v3 wx => grp_take (w3 := w3) (v3 := v3) (x := rs[j].id) hR hlt hp rfl wx
          have hP : grpP k6 id rs[j] = (rs[j].grp == k6 && rs[j].id != id) := rfl
          rw [hP] at hsk htk
          clear hP hR
          generalize rs[j] = o at *
          obtain ⟨x1, x2, x3, x4, x5, x6⟩ := o
          simp only at c0 c1 c2 c3 c4 c5 hsk htk
          generalize hsx : sel k6 id (rs.take j) = sx at *
          clear hsx
          have HSK := Lib.hid hsk
          have HTK := Lib.hid htk
          clear hsk htk
          by_cases q1 : x6 = k6
          · subst q1
            have d1 : (x6 == x6) = true := by simp
            by_cases q2 : x1 = id
            · subst q2
              have d2 : (x1 != x1) = false := by simp
              go_wp2
              go_quiet (fail)
              go_wp2
              go_roundw
              case rel => exact ⟨j + 1, by omega, by go_num, HSK.out (by simp) _ ⟨_, rfl⟩⟩
              case measure => simp [intOf]; omega
            · have d2 : (x1 != id) = true := by simpa using q2
              have HH := Lib.hid (HTK.out (by simp [q2]))
              clear q2
              go_wp2
              go_quiet (fail)
              have hownq : (wr.drewN nq).ownsRow w2.heap.size 3 1 u5 sx.length (sx.map (Value.int .i64)) := owns_below hown (blw_drewN (Below.refl _ _) _)
              go_wp2_with (at_builtin; refine wpList_append_own _ rfl (.tmp 49) (.tmp 55) 40 rfl w2.heap.size 3 i0 (.int .i64 0) 1 8 Try.underlying40 hi hz0 hz1 hz2 rfl (by decide) u5 sx.length (sx.map (Value.int .i64)) rfl (hownq.alloc _) ⟨wr.heap.size, 0, none⟩ 1 1 [.int .i64 x1] rfl rfl (cell_new0 (wr.drewN nq) _ _) (by simp; rfl) (by unfold maxLen; omega) (by omega) (by simp; omega) ?_; intro v3 w3 hown3 hgrow3 hnil3)
              go_roundw
              case rel => exact ⟨j + 1, by omega, by go_num, HH.out w3 v3 _ ((blw_drewN (Below.refl _ _) nq).alloc (Nat.le_refl _) _) hown3 hgrow3⟩
              case measure => simp [intOf]; omega
          · have d1 : (x6 == k6) = false := by simpa using q1
            go_wp2
            go_quiet (fail)
            go_wp2
            go_roundw
            case rel => exact ⟨j + 1, by omega, by go_num, HSK.out (by simp [q1]) _ ⟨_, rfl⟩⟩
            case measure => simp [intOf]; omega
        · obtain rfl : j = rs.length := by omega
          have HR := Lib.hid hR
          go_wp2
          go_ret
          rw [HE.out]
          exact grp_end HR.out hB

/-- Is a number among others. -/
def hasB (xs : List Int) (n : Int) : Bool := xs.contains n
theorem hasB_nil (n : Int) : hasB [] n = false := rfl
theorem hasB_iff (xs : List Int) (n : Int) : hasB xs n = true ↔ n ∈ xs := by unfold hasB; simp
theorem hasB_snoc (xs : List Int) (x n : Int) : hasB (xs ++ [x]) n = (hasB xs n || (x == n)) := by
  rw [Bool.eq_iff_iff, hasB_iff, Bool.or_eq_true, hasB_iff, List.mem_append, List.mem_singleton, beq_iff_eq]
  exact or_congr Iff.rfl eq_comm
theorem has_any (v : Value) (xs : List Int) (n : Int) (w : World) (hv : Ints .i64 w v xs) :
    Calls Try.prog 19 #[v, .int .i64 n] w fun e w' => e = .returned (.bool (hasB xs n)) ∧ w = w' := by
  have hl := hv.len
  obtain ⟨a, cap, rfl⟩ := hv.shape
  by_cases h0 : 0 < xs.length
  · obtain ⟨b, off, rfl, -, -, -, hc⟩ := hv.opened h0
    have HC := Lib.hid hc
    clear hv hc
    go_enter Try.func19, Try.ntmps19
    go_wp2
    go_loop [8] (fun i => ∃ k : Nat, k ≤ xs.length ∧ i = .int .i64 k ∧ Hid (hasB (xs.take k) n = false)) (fun i => xs.length - (intOf i).toNat)
    case atStart => exact ⟨0, Nat.zero_le _, rfl, Lib.hid rfl⟩
    case round =>
      obtain ⟨k, hk, rfl, hf⟩ := hrel
      by_cases hlt : k < xs.length
      · have c0 := HC.out k hlt
        have HT := take_snoc xs k hlt
        have hmem : xs.getD k 0 ∈ xs := by simp [List.getD, hlt]
        generalize xs.getD k 0 = x at c0 HT hmem
        by_cases he : x = n
        · have HN := Lib.hid (show hasB xs n = true by rw [hasB_iff, ← he]; exact hmem)
          have e1 : (x == n) = true := by simpa using he
          clear HT hmem he
          go_wp2
          go_ret
          exact ⟨ret_bool HN.out.symm, rfl⟩
        · have e1 : (x == n) = false := by simpa using he
          have HN := Lib.hid (show hasB (xs.take (k + 1)) n = false by rw [HT, hasB_snoc, hf.out, e1]; rfl)
          clear HT hmem he hf
          go_wp2
          go_round
          case rel => exact ⟨k + 1, by omega, by go_num, HN⟩
          case measure => simp [intOf]; omega
      · have HN := Lib.hid (show hasB xs n = false by
          have h1 := hf.out
          rwa [List.take_of_length_le (by omega)] at h1)
        clear hf
        go_wp2
        go_ret
        exact ⟨ret_bool HN.out.symm, rfl⟩
  · obtain rfl : xs = [] := List.eq_nil_of_length_eq_zero (by omega)
    clear hv hl h0
    have HN := Lib.hid (hasB_nil n)
    go_enter Try.func19, Try.ntmps19
    go_wp2
    refine wp_loop_rounds 1 ?_
    rw [rounds_succ]
    go_wp2
    go_ret
    exact ⟨ret_bool HN.out.symm, rfl⟩
end Go.Proofs.Ytoienmcgcefdiaa
