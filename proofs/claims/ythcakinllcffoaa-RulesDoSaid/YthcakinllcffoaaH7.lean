
import Derived.Test.YthcakinllcffoaaH6
/- H7: the reference's Apply, hold -/
namespace Go.Proofs.Ythcakinllcffoaa
open Go.RowKit
set_option linter.unusedVariables false

theorem rhold_any (n lo hi : Int) (h : lo ≤ hi) (w : World) :
    Calls Try.prog 45 #[.int .i64 n, .int .i64 lo, .int .i64 hi] w fun e w' => e = .returned (.int .i64 (hold n lo hi)) ∧ w = w' := by
  unfold hold
  by_cases h1 : n < lo
  · have e1 : decide (n < lo) = true := by simpa using h1
    rw [if_pos h1]
    clear h h1
    go_enter Try.func45, Try.ntmps45
    go_wp2
    go_ret
    exact ⟨rfl, rfl⟩
  · have e1 : decide (n < lo) = false := by simpa using h1
    rw [if_neg h1]
    by_cases h2 : hi < n
    · have e2 : decide (hi < n) = true := by simpa using h2
      rw [if_pos h2]
      clear h h1 h2
      go_enter Try.func45, Try.ntmps45
      go_wp2
      go_ret
      exact ⟨rfl, rfl⟩
    · have e2 : decide (hi < n) = false := by simpa using h2
      rw [if_neg h2]
      clear h h1 h2
      go_enter Try.func45, Try.ntmps45
      go_wp2
      go_ret
      exact ⟨rfl, rfl⟩

theorem wout_rise {xs : List Att} {key : Int} (h : Rise xs) : Rise (wout5 xs key) := h.sublist List.filter_sublist
theorem wout_get {xs : List Att} (key : Int) (h : Rise xs) (k : Int) : getA (wout5 xs key) k = if k = key then none else getA xs k := by
  cases hx : getA (wout5 xs key) k with
  | some a =>
    obtain ⟨h1, h2⟩ := getA_key hx
    obtain ⟨h3, h4⟩ := List.mem_filter.1 h1
    have h4 : (a.key != key) = true := h4
    rw [h2] at h4
    rw [if_neg (by simpa using h4), ← h2, getA_in h h3]
  | none =>
    split
    · rfl
    · rename_i hk
      cases hy : getA xs k with
      | none => rfl
      | some a =>
        obtain ⟨h1, h2⟩ := getA_key hy
        have := getA_in (wout_rise (key := key) h) (List.mem_filter.2 ⟨h1, by rw [h2]; simpa using hk⟩)
        rw [h2, hx] at this
        cases this
theorem with_get5 {xs : List Att} (a : Att) (h : Rise xs) (k : Int) : getA (with5 xs a) k = if k = a.key then some a else getA xs k := by
  have hr := rise_with a h
  split
  · rename_i hk
    rw [hk]; exact getA_in hr (with_mem.2 (.inl rfl))
  · rename_i hk
    cases hy : getA xs k with
    | some b =>
      obtain ⟨h1, h2⟩ := getA_key hy
      have := getA_in hr (with_mem.2 (.inr ⟨h1, by rw [h2]; exact hk⟩))
      rw [h2] at this
      exact this
    | none =>
      cases hx : getA (with5 xs a) k with
      | none => rfl
      | some b =>
        obtain ⟨h1, h2⟩ := getA_key hx
        rcases with_mem.1 h1 with e | ⟨h3, h4⟩
        · rw [e] at h2; exact absurd h2.symm hk
        · have := getA_in h h3
          rw [h2, hy] at this
          cases this
theorem crise_take {p : List Chg} (h : RiseC p) (k : Nat) : RiseC (p.take k) := h.sublist (List.take_sublist _ _)
theorem take_get {p : List Chg} (h : RiseC p) {k : Nat} (hk : k < p.length) (j : Int) : getC (p.take (k + 1)) j = if j = p[k].key then some p[k] else getC (p.take k) j := by
  have hr := crise_take h (k + 1)
  rw [tsnoc hk] at hr ⊢
  split
  · rename_i e
    rw [e]; exact getC_in hr (List.mem_append.2 (.inr (List.mem_singleton.2 rfl)))
  · rename_i e
    rw [getC_app, getC_cons, if_neg (fun h => e h.symm), getC_nil]
    simp
theorem app_gone {a : List Att} {p : List Chg} (ha : Rise a) (hp : RiseC p) {k : Nat} (hk : k < p.length) (hg : p[k].g = true) : wout5 (app a (p.take k)) p[k].key = app a (p.take (k + 1)) := by
  refine extA (wout_rise (app_rise ha (crise_take hp k))) (app_rise ha (crise_take hp (k + 1))) fun j => ?_
  rw [wout_get _ (app_rise ha (crise_take hp k)), app_get ha (crise_take hp k), app_get ha (crise_take hp (k + 1)), take_get hp hk]
  split
  · simp [ck, hg]
  · rfl
theorem app_set {a : List Att} {p : List Chg} (ha : Rise a) (hp : RiseC p) {k : Nat} (hk : k < p.length) (hg : p[k].g = false) : with5 (app a (p.take k)) (toA p[k]) = app a (p.take (k + 1)) := by
  refine extA (rise_with _ (app_rise ha (crise_take hp k))) (app_rise ha (crise_take hp (k + 1))) fun j => ?_
  rw [with_get5 _ (app_rise ha (crise_take hp k)), app_get ha (crise_take hp k), app_get ha (crise_take hp (k + 1)), take_get hp hk]
  show (if j = p[k].key then _ else _) = _
  split
  · simp [ck, hg]
  · rfl
theorem own_none (w : World) (e : TypeId) (m : Nat) : (w.alloc (.cells #[] e)).ownsRow w.heap.size e m (.slice (some ⟨w.heap.size, 0, none⟩) 0 0) 0 [] :=
  ⟨by simp, .inr ⟨w.heap.size, 0, #[], rfl, Nat.le_refl _, heap_alloc_new w _, Nat.le_refl _, by simp, by simp, by simp⟩⟩

set_option maxRecDepth 100000 in
set_option maxHeartbeats 2000000 in
theorem rapply_any (v1 v2 : Value) (a : List Att) (p : List Chg) (w : World) (h1 : Arow w v1 a) (h2 : Crow w v2 p) (ha : Rise a) (hp : RiseC p) (hl : a.length + p.length ≤ 1000) :
    Calls Try.prog 46 #[v1, v2] w fun e w' => ∃ u, e = .returned u ∧ Own5 w w' u (app a p) ∧ Below w.heap.size w w' := by
  obtain ⟨i0, hi, hz0, hz1, hz2⟩ := info_at
  have HR := Lib.hid (show Arow (w.alloc (.cells #[] 64)) v1 a from h1.below (kbelow_one w _) (Nat.le_refl _))
  have HO := Lib.hid (own_none w 64 5)
  have H2 := Lib.hid h2
  obtain ⟨a2, cap2, rfl⟩ := h2.shape
  have hpl := h2.len
  clear h1 h2
  go_enter Try.func46, Try.ntmps46
  go_wp2_with (at_builtin; refine wpList_append_row (C := attC) rfl (.tmp 7) (.tmp 8) 24 rfl w.heap.size 64 i0 (av noAtt) 48 Try.underlying24 hi hz0 hz1 hz2 rfl _ _ _ rfl HO.out _ a rfl HR.out (by unfold maxLen; simp; omega) (by simp; omega) (by simp) ?_; intro v3 w3 hown3 hgrow3)
  have hB3 : Below w.heap.size w w3 := (kbelow_one w (.cells #[] 64)).grown hgrow3 (by simp) (fun k hk => own_base HO.out hk)
  have hg3 : Grows w (app a (p.take 0)) v3 w3 := by
    rw [List.take_zero, app_nil ha]
    refine ⟨?_, hB3⟩
    have h := hown3
    simp only [Nat.zero_add, List.nil_append] at h
    exact h
  have HG := Lib.hid hg3
  clear hown3 hgrow3 hg3 hB3
  by_cases h0 : 0 < p.length
  · obtain ⟨b, off, rfl, -, -, -, hbl, hat⟩ := Crow.opn H2.out h0
    have HAT := Lib.hid hat
    clear hat
    go_loopw [5, 6] (fun s5 s6 wr => ∃ k : Nat, k ≤ p.length ∧ s6 = .int .i64 k ∧ Hid (Grows w (app a (p.take k)) s5 wr)) (fun _ s6 _ => p.length - (intOf s6).toNat)
    case atStart => exact ⟨0, Nat.zero_le _, rfl, HG⟩
    case round =>
      obtain ⟨k, hk, rfl, HK⟩ := hrel
      by_cases hlt : k < p.length
      · obtain ⟨c0, c1, c2, c3, c4, c5⟩ := (HAT.out k hlt).below HK.out.2 hbl
        have hll : (app a (p.take k)).length ≤ 1000 := by have := app_len a (p.take k); rw [List.length_take] at this; omega
        have hrk := app_rise ha (crise_take hp k)
        have hG := fun h => app_gone ha hp hlt h
        have hS := fun h => app_set ha hp hlt h
        have HWO := Lib.hid (fun u W (h : Arow W u (app a (p.take k))) => rwithout_any5 u (app a (p.take k)) p[k].key W h hll)
        have HWI := Lib.hid (fun u W (h : Arow W u (app a (p.take k))) => rwith_any5 u (app a (p.take k)) (toA p[k]) W h hll)
        rw [wdone_eq (toA p[k]) hrk] at HWI
        generalize app a (p.take k) = ls at *
        generalize p[k] = x at *
        obtain ⟨x1, x2, x3, x4, x5, x6⟩ := x
        simp only at c0 c1 c2 c3 c4 c5 hG hS HWO HWI
        cases x2
        · have hS := hS rfl
          rw [hS] at HWI
          clear hG hS HWO
          have HQ := Lib.hid (grows_stay HK.out (Below.refl wr.heap.size wr).drew)
          have HQ1 := Lib.hid HQ.out.1.row
          have hz0 : CAt b (off + k * 6) ⟨x1, false, x3, x4, x5, x6⟩ wr.drew := (show CAt b (off + k * 6) ⟨x1, false, x3, x4, x5, x6⟩ wr from ⟨c0, c1, c2, c3, c4, c5⟩).below (Below.refl wr.heap.size wr).drew (World.block_lt_of_cell? _ _ c0)
          clear c0 c2 c3 c4 c5
          go_wp2_with fail
          go_region_held3 (fun w' => CAt b (off + k * 6) ⟨x1, false, x3, x4, x5, x6⟩ w') (first | assumption | trivial)
            (first | (go_at_call 47; (with_reducible refine (HWI.out _ _ HQ1.out).mono ?_); rintro e w4 ⟨u4, rfl, ho4, hb4⟩; have hz4 := hz0.below hb4 hz0.lt))
          have HB4 := Lib.hid (below_add HQ.out.2 hb4 HQ.out.2.size)
          have HO4 := Lib.hid (owns_mono ho4 HQ.out.2.size)
          clear ho4 hb4 hz4 hz0
          go_wp2_with fail
          go_roundw
          case rel => exact ⟨k + 1, by omega, by go_num, Lib.hid ⟨HO4.out, HB4.out⟩⟩
          case measure => simp [intOf]; omega
        · have hG := hG rfl
          rw [hG] at HWO
          clear hG hS HWI
          go_wp2_with (go_at_call 64; refine (HWO.out _ _ HK.out.1.row).mono ?_; rintro e w4 ⟨u4, rfl, ho4, hb4⟩)
          have HB4 := Lib.hid (below_add HK.out.2 hb4 HK.out.2.size)
          have HO4 := Lib.hid (owns_mono ho4 HK.out.2.size)
          clear ho4 hb4
          go_roundw
          case rel => exact ⟨k + 1, by omega, by go_num, Lib.hid ⟨HO4.out, HB4.out⟩⟩
          case measure => simp [intOf]; omega
      · obtain rfl : k = p.length := by omega
        go_wp2
        go_ret
        have h := HK.out
        rw [tend] at h
        exact ⟨_, rfl, h⟩
  · obtain rfl : p = [] := List.eq_nil_of_length_eq_zero (by omega)
    refine wp_loop_rounds 1 ?_
    rw [rounds_succ]
    go_wp2
    go_ret
    exact ⟨_, rfl, HG.out⟩
end Go.Proofs.Ythcakinllcffoaa
