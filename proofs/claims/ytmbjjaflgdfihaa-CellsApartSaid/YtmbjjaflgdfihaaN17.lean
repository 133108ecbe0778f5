
import Derived.Test.YtmbjjaflgdfihaaN16
/- N17: Of, New, Retain, Insert, Delete, Ops -/
namespace Go.Proofs.Ytmbjjaflgdfihaa
open Go.RowKit
set_option linter.unusedVariables false
set_option maxRecDepth 100000

theorem mnew_any (w : World) : Calls Try.prog 40 #[] w fun e w' => e = .returned (.pointer (some ⟨w.heap.size, 0, none⟩)) ∧ w' = w.alloc (.cells #[.slice none 0 0] 90) := by
  go_enter Try.func40, Try.ntmps40
  go_wp2
  go_ret
  exact ⟨rfl, rfl⟩
theorem ts_new (G : Nat → Prop) (bm : Nat) (w : World) (h : Cb bm 90 #[.slice none 0 0] w) : TS G bm w [] none 0 0 [] w := ⟨h, Oown.nil _ _, rfl, rfl, Off.refl _ _⟩
/-- What ops come in. -/
structure In (xs : List Oz) : Prop where
  sm : ∀ x ∈ xs, Sm x
  n : ∀ x ∈ xs, x.n ≤ 9223372036854775807
  len : xs.length ≤ 50331648
  rs : sumR (xs.map Oz.o) ≤ 50331648
theorem lastI_ends (zs : List Oz) : lastI zs = true ↔ ¬ Ends ((zs.map Oz.o).reverse) := by
  have key : ∀ r : List Oz, lastI r.reverse = true ↔ ¬ Ends (r.map Oz.o) := fun r => by
    cases r with
    | nil => simp [lastI, Ends]
    | cons z r =>
      have e : (z :: r).reverse = r.reverse ++ [z] := by simp
      rw [e, List.map_cons]
      have hl : lastI (r.reverse ++ [z]) = (decide (z.k = 1) && decide (z.pt.length = 0)) := by simp [lastI]
      rw [hl]
      simp only [Ends, Idle, Bool.and_eq_true, decide_eq_true_eq, Decidable.not_not]
      exact ⟨fun h => ⟨h.1, List.eq_nil_of_length_eq_zero h.2⟩, fun h => ⟨h.1, by have : z.pt = [] := h.2; rw [this]; rfl⟩⟩
  have := key zs.reverse
  rwa [List.reverse_reverse, List.map_reverse] at this
theorem mem_settleZ {zs : List Oz} {z : Oz} (h : z ∈ settleZ zs) : z ∈ zs := by
  unfold settleZ at h
  split at h
  · exact List.mem_of_mem_take h
  · exact h
theorem Oown.settle {F : Nat → Prop} {w : World} {a : Option Addr} {n c : Nat} {zs : List Oz} (h : Oown F w (.slice a n c) zs) (hn : zs.length = n) : Oown F w (.slice a (settleZ zs).length c) (settleZ zs) := by
  subst hn
  unfold settleZ
  by_cases hl : lastI zs = true
  · rw [if_pos hl]
    have h0 : 0 < zs.length := by
      cases zs with
      | nil => simp [lastI] at hl
      | cons _ _ => simp
    have := h.head (k := zs.length - 1) (by omega) h0
    rwa [show (zs.take (zs.length - 1)).length = zs.length - 1 by rw [List.length_take]; omega]
  · rw [if_neg hl]; exact h
/-- Each op told so far is like one of those that came in, but for its length. -/
theorem tell_like (xs : List Opn) : ∀ o ∈ tellR xs, ∃ p ∈ xs, o.st = p.st ∧ o.pt = p.pt := by
  refine tell_ind (P := fun R => ∀ o ∈ R, ∃ p ∈ xs, o.st = p.st ∧ o.pt = p.pt) (by simp) xs fun p hp R hR => ?_
  have hpush : ∀ r : List Opn, (∀ o ∈ r, o ∈ R) → ∀ o ∈ rpush p r, ∃ p ∈ xs, o.st = p.st ∧ o.pt = p.pt := fun r hr => by
    cases r with
    | nil => intro o ho; rw [rpush_nil] at ho; obtain rfl := List.mem_singleton.1 ho; exact ⟨o, hp, rfl, rfl⟩
    | cons l r =>
      intro o ho
      by_cases ha : Alike l p
      · rw [rpush_yes r ha] at ho
        rcases List.mem_cons.1 ho with rfl | ho
        · obtain ⟨-, e2, e3⟩ := long_k l p
          rw [e2, e3]
          exact hR l (hr l (by simp))
        · exact hR o (hr o (by simp [ho]))
      · rw [rpush_no r ha] at ho
        rcases List.mem_cons.1 ho with rfl | ho
        · exact ⟨o, hp, rfl, rfl⟩
        · exact hR o (hr o ho)
  by_cases hz : lenN p < 1
  · rw [rtell_zero hz]; exact hR
  cases R with
  | nil => rw [rtell_nil (by omega)]; intro o ho; obtain rfl := List.mem_singleton.1 ho; exact ⟨o, hp, rfl, rfl⟩
  | cons d r =>
    by_cases hc : p.k = 2 ∧ d.k = 3
    · rw [rtell_del r (by omega) hc.1 hc.2]
      intro o ho
      rcases List.mem_cons.1 ho with rfl | ho
      · exact hR o (by simp)
      · exact hpush r (fun o ho => by simp [ho]) o ho
    · rw [rtell_else r (by omega) hc]
      exact hpush _ (fun o ho => ho)
theorem in_form {xs ys : List Oz} (h : In xs) (he : ys.map Oz.o = formO (xs.map Oz.o)) : In ys := by
  have hri : RI (tellR (xs.map Oz.o)) xs.length (sumR (xs.map Oz.o)) := by
    have key : ∀ l : List Opn, (∀ p ∈ l, p.n ≤ 9223372036854775807) → RI (tellR l) l.length (sumR l) := fun l => by
      induction l using snoc_ind with
      | nil => intro _; exact ri_nil
      | append_singleton l p ih =>
        intro hl
        have := ri_rtell (ih fun q hq => hl q (by simp [hq])) (hl p (by simp))
        rw [tellR_snoc]
        exact this.mono (by simp) (by rw [sumR_app]; simp [sumR])
    have := key (xs.map Oz.o) (fun p hp => by obtain ⟨x, hx, rfl⟩ := List.mem_map.1 hp; exact h.n x hx)
    rwa [List.length_map] at this
  have hmem : ∀ y ∈ ys, y.o ∈ tellR (xs.map Oz.o) := fun y hy => settle_sub _ _ (by
    have : y.o ∈ formO (xs.map Oz.o) := by rw [← he]; exact List.mem_map_of_mem hy
    simpa [formO] using this)
  have hset : ∀ R : List Opn, (settleR R).length ≤ R.length ∧ sumR (settleR R) ≤ sumR R := fun R => by
    cases R with
    | nil => exact ⟨Nat.le_refl _, Nat.le_refl _⟩
    | cons o r =>
      by_cases hi : Idle o
      · rw [settleR_yes r hi, sumR_cons, List.length_cons]; exact ⟨by omega, by omega⟩
      · rw [settleR_no r hi]; exact ⟨Nat.le_refl _, Nat.le_refl _⟩
  obtain ⟨s1, s2⟩ := hset (tellR (xs.map Oz.o))
  have hl := h.len
  have hr := h.rs
  refine ⟨fun y hy => ?_, fun y hy => (hri.ok _ (hmem y hy)).2, ?_, ?_⟩
  · obtain ⟨p, hp, e1, e2⟩ := tell_like _ _ (hmem y hy)
    obtain ⟨x, hx, rfl⟩ := List.mem_map.1 hp
    have hs := h.sm x hx
    have h1 := sumR_mem (hmem y hy)
    have h2 := hri.rs
    have e3 : y.o.rs.length = y.rs.length := rfl
    have e4 : y.st = x.st := e1
    have e5 : y.pt = x.pt := e2
    exact ⟨by omega, by rw [e4]; exact hs.s, by rw [e5]; exact hs.p⟩
  · have h1 := hri.len
    have h2 := congrArg List.length he
    rw [List.length_map, formO, List.length_reverse] at h2
    omega
  · rw [he, formO, sumR_rev]
    have := hri.rs
    omega

end Go.Proofs.Ytmbjjaflgdfihaa
