
import Derived.Test.YtmbjjaflgdfihaaN2
/- N3: the form gap by gap; what is kept of all that is told; another order of telling -/
namespace Go.Proofs.Ytmbjjaflgdfihaa
open Go.RowKit
set_option linter.unusedVariables false

theorem snoc_ind {α : Type} {P : List α → Prop} (nil : P []) (append_singleton : ∀ xs x, P xs → P (xs ++ [x])) (xs : List α) : P xs := by
  have : ∀ l : List α, P l.reverse := fun l => by
    induction l with
    | nil => exact nil
    | cons x r ih => rw [List.reverse_cons]; exact append_singleton _ _ ih
  have h := this xs.reverse
  rwa [List.reverse_reverse] at h
def delO (n : Int) : Opn := ⟨3, n, [], [], []⟩
def joinG (o : Opn) : List Opn → List Opn
  | [] => [o]
  | l :: r => if l.st = o.st then { l with rs := l.rs ++ o.rs } :: r else o :: l :: r
theorem joinG_yes {o l : Opn} (r : List Opn) (h : l.st = o.st) : joinG o (l :: r) = { l with rs := l.rs ++ o.rs } :: r := if_pos h
theorem joinG_no {o l : Opn} (r : List Opn) (h : ¬ l.st = o.st) : joinG o (l :: r) = o :: l :: r := if_neg h
def goneO (g : List Opn) : Int := (g.map fun o => if o.k = 3 then o.n else 0).sum
def insO (g : List Opn) : List Opn := g.filter fun o => decide (o.k ≠ 3)
def joinAll (g : List Opn) : List Opn := g.foldl (fun G o => joinG o G) []
/-- A gap's form, the last op first. -/
def gapR (g : List Opn) : List Opn := if 0 < goneO g then delO (goneO g) :: joinAll (insO g) else joinAll (insO g)
def rmerge (x : Opn) : List Opn → List Opn
  | [] => [x]
  | l :: r => if l.k = 1 ∧ l.pt = x.pt then { l with n := l.n + x.n } :: r else x :: l :: r
theorem rmerge_yes {x l : Opn} (r : List Opn) (h : l.k = 1 ∧ l.pt = x.pt) : rmerge x (l :: r) = { l with n := l.n + x.n } :: r := if_pos h
theorem rmerge_no {x l : Opn} (r : List Opn) (h : ¬ (l.k = 1 ∧ l.pt = x.pt)) : rmerge x (l :: r) = x :: l :: r := if_neg h
def refStep (s : List Opn × List Opn) (x : Opn) : List Opn × List Opn := if x.k = 1 then (rmerge x (gapR s.2 ++ s.1), []) else (s.1, s.2 ++ [x])
def refS (xs : List Opn) : List Opn × List Opn := xs.foldl refStep ([], [])
def refR (xs : List Opn) : List Opn := gapR (refS xs).2 ++ (refS xs).1
def refO (xs : List Opn) : List Opn := (settleR (refR xs)).reverse
theorem refS_snoc (xs : List Opn) (x : Opn) : refS (xs ++ [x]) = refStep (refS xs) x := by simp [refS]
theorem goneO_app (a b : List Opn) : goneO (a ++ b) = goneO a + goneO b := by simp [goneO]
theorem goneO_one (x : Opn) : goneO [x] = if x.k = 3 then x.n else 0 := by simp [goneO]
theorem insO_app (a b : List Opn) : insO (a ++ b) = insO a ++ insO b := by simp [insO]
theorem insO_yes {x : Opn} (h : x.k ≠ 3) : insO [x] = [x] := by simp [insO, h]
theorem insO_no {x : Opn} (h : x.k = 3) : insO [x] = [] := by simp [insO, h]
theorem joinAll_snoc (g : List Opn) (x : Opn) : joinAll (g ++ [x]) = joinG x (joinAll g) := by simp [joinAll]
def sumN (xs : List Opn) : Int := (xs.map (·.n)).sum
def sumR (xs : List Opn) : Nat := (xs.map (·.rs.length)).sum
theorem sumN_app (a b : List Opn) : sumN (a ++ b) = sumN a + sumN b := by simp [sumN]
theorem sumN_cons (x : Opn) (b : List Opn) : sumN (x :: b) = x.n + sumN b := by simp [sumN]
theorem sumR_app (a b : List Opn) : sumR (a ++ b) = sumR a + sumR b := by simp [sumR]
theorem sumR_cons (x : Opn) (b : List Opn) : sumR (x :: b) = x.rs.length + sumR b := by simp [sumR]
theorem sumN_nn : ∀ {xs : List Opn}, (∀ o ∈ xs, Tm o) → 0 ≤ sumN xs
  | [], _ => by simp [sumN]
  | x :: r, h => by
    rw [sumN_cons]
    have := (h x (by simp)).nn
    have := sumN_nn (xs := r) fun o ho => h o (by simp [ho])
    omega
/-- The head of what stands ahead of a gap is a retain. -/
def Hd1 (out : List Opn) : Prop := ∀ l r, out = l :: r → l.k = 1
theorem joinAll_ind {P : Opn → Prop} (hj : ∀ l o : Opn, P l → P o → P { l with rs := l.rs ++ o.rs }) (g : List Opn) (h : ∀ o ∈ g, P o) : ∀ o ∈ joinAll g, P o := by
  have : ∀ (l G : List Opn), (∀ o ∈ l, P o) → (∀ o ∈ G, P o) → ∀ o ∈ l.foldl (fun G o => joinG o G) G, P o := fun l => by
    induction l with
    | nil => intro G _ h; exact h
    | cons x r ih =>
      intro G hl hG
      refine ih _ (fun o ho => hl o (by simp [ho])) ?_
      cases G with
      | nil => intro o ho; obtain rfl := List.mem_singleton.1 ho; exact hl _ (by simp)
      | cons l q =>
        by_cases hs : l.st = x.st
        · show ∀ o ∈ joinG x (l :: q), P o
          rw [joinG_yes q hs]
          intro o ho
          rcases List.mem_cons.1 ho with rfl | ho
          · exact hj _ _ (hG l (by simp)) (hl x (by simp))
          · exact hG o (by simp [ho])
        · show ∀ o ∈ joinG x (l :: q), P o
          rw [joinG_no q hs]
          intro o ho
          rcases List.mem_cons.1 ho with rfl | ho
          · exact hl _ (by simp)
          · exact hG o ho
  exact this g [] h (by simp)
/-- The ops of a gap. -/
def Gp (g : List Opn) : Prop := ∀ o ∈ g, Tm o ∧ o.k ≠ 1
theorem join_shape {g : List Opn} (h : Gp g) : ∀ o ∈ joinAll (insO g), o.k = 2 ∧ o.pt = [] :=
  joinAll_ind (P := fun o => o.k = 2 ∧ o.pt = []) (fun l o h _ => h) _ fun o ho => by
    obtain ⟨h1, h2⟩ := List.mem_filter.1 ho
    obtain ⟨ht, hk⟩ := h o h1
    have h3 : o.k ≠ 3 := by simpa using h2
    have h4 : o.k = 2 := by rcases ht.kind with e | e | e <;> omega
    exact ⟨h4, (ht.ins h4).2.1⟩
theorem join_push {o : Opn} {G out : List Opn} (ho : o.k = 2 ∧ o.pt = []) (hG : ∀ o ∈ G, o.k = 2 ∧ o.pt = []) (h1 : Hd1 out) : rpush o (G ++ out) = joinG o G ++ out := by
  cases G with
  | nil =>
    cases out with
    | nil => rfl
    | cons l r => exact rpush_no r (fun ha => by have := h1 l r rfl; have := ha.1; omega)
  | cons l r =>
    obtain ⟨a, b⟩ := hG l (by simp)
    by_cases hs : l.st = o.st
    · rw [joinG_yes r hs, List.cons_append, rpush_yes _ ⟨by omega, hs, by rw [b, ho.2]⟩, long, if_pos a, List.cons_append]
    · rw [joinG_no r hs, List.cons_append, rpush_no _ (fun ha => hs ha.2.1)]; rfl
theorem tm_delO {x : Opn} (h : Tm x) (h3 : x.k = 3) : x = delO x.n := by
  obtain ⟨a, b, c, d⟩ := h.del h3
  cases x
  simp only at *
  subst h3 a b c
  rfl
theorem gone_nn : ∀ {g : List Opn}, (∀ o ∈ g, Tm o) → 0 ≤ goneO g
  | [], _ => by simp [goneO]
  | x :: r, h => by
    have e : goneO (x :: r) = (if x.k = 3 then x.n else 0) + goneO r := by simp [goneO]
    have h1 := (h x (by simp)).nn
    have h2 := gone_nn (g := r) fun o ho => h o (by simp [ho])
    rw [e]
    split <;> omega
theorem gap_step {g out : List Opn} {x : Opn} (hg : Gp g) (h1 : Hd1 out) (hx : Tm x) (hk : x.k ≠ 1) (hb : goneO g + x.n ≤ 9223372036854775807) : rtell x (gapR g ++ out) = gapR (g ++ [x]) ++ out := by
  have hJ := join_shape hg
  have h0 := gone_nn fun o ho => (hg o ho).1
  have hhd : ∀ l r, joinAll (insO g) ++ out = l :: r → l.k ≠ 3 := fun l r e => by
    cases hJJ : joinAll (insO g) with
    | nil => rw [hJJ] at e; have := h1 l r e; omega
    | cons d q =>
      rw [hJJ] at e
      injection e with e _
      have := (hJ d (by rw [hJJ]; simp)).1
      subst e
      omega
  unfold gapR
  rw [goneO_app, insO_app, goneO_one]
  generalize hGG : goneO g = gone at *
  generalize hJJ : joinAll (insO g) = J at *
  rcases hx.kind with e | e | e
  · exact absurd e hk
  · rw [if_neg (by omega : ¬ x.k = 3), Int.add_zero, insO_yes (by omega), joinAll_snoc, hJJ]
    have hp := join_push (o := x) (G := J) ⟨e, (hx.ins e).2.1⟩ hJ h1
    by_cases hz : 0 < gone
    · rw [if_pos hz, if_pos hz, List.cons_append, rtell_del _ hx.len e rfl, hp]; rfl
    · rw [if_neg hz, if_neg hz, ← hp]
      cases hR : J ++ out with
      | nil => rw [rtell_nil hx.len]; rfl
      | cons d r => rw [rtell_else r hx.len (fun hc => hhd d r hR hc.2)]
  · have hd := hx.del e
    have hz' : 0 < gone + x.n := by have := hd.2.2.2; omega
    rw [if_pos e, insO_no e, List.append_nil, hJJ, if_pos hz']
    by_cases hz : 0 < gone
    · rw [if_pos hz, List.cons_append, rtell_else _ hx.len (by omega), rpush_yes _ ⟨by rw [e]; rfl, by rw [hd.1]; rfl, by rw [hd.2.1]; rfl⟩]
      have : long (delO gone) x = delO (gone + x.n) := by
        unfold long delO
        rw [if_neg (by simp)]
        simp only [Opn.mk.injEq, true_and, and_true]
        omega
      rw [this]; rfl
    · obtain rfl : gone = 0 := by omega
      rw [if_neg hz, Int.zero_add, ← tm_delO hx e]
      cases hR : J ++ out with
      | nil => rw [rtell_nil hx.len, List.cons_append, hR]
      | cons d r => rw [rtell_else r hx.len (by omega), rpush_no r (fun ha => hhd d r hR (by rw [ha.1]; exact e)), List.cons_append, hR]
/-! ### sums of what is told -/
theorem sumN_rpush {p : Opn} {r : List Opn} (hp : Tm p) : sumN (rpush p r) ≤ sumN r + p.n := by
  cases r with
  | nil => rw [rpush_nil]; simp [sumN]
  | cons l r =>
    by_cases ha : Alike l p
    · rw [rpush_yes r ha, sumN_cons, sumN_cons]
      have := hp.nn
      have : (long l p).n ≤ l.n + p.n := by
        unfold long
        split
        · simp only; omega
        · simp only; omega
      omega
    · rw [rpush_no r ha, sumN_cons, sumN_cons]; omega
theorem sumN_rtell {p : Opn} {R : List Opn} (hp : Tm p) : sumN (rtell p R) ≤ sumN R + p.n := by
  cases R with
  | nil => rw [rtell_nil hp.len]; simp [sumN]
  | cons d r =>
    by_cases hc : p.k = 2 ∧ d.k = 3
    · rw [rtell_del r hp.len hc.1 hc.2, sumN_cons, sumN_cons]
      have := sumN_rpush (r := r) hp
      omega
    · rw [rtell_else r hp.len hc]; exact sumN_rpush hp
theorem tell_sumN : ∀ (xs : List Opn), (∀ p ∈ xs, Tm p) → sumN (tellR xs) ≤ sumN xs := fun xs => by
  induction xs using snoc_ind with
  | nil => intro _; simp [tellR_nil]
  | append_singleton xs p ih =>
    intro h
    rw [tellR_snoc, sumN_app]
    have h1 := ih fun o ho => h o (by simp [ho])
    have h2 := sumN_rtell (R := tellR xs) (h p (by simp))
    have h3 : sumN [p] = p.n := by simp [sumN]
    omega
theorem sumN_mem {R : List Opn} (h : ∀ o ∈ R, Tm o) {o : Opn} (ho : o ∈ R) : o.n ≤ sumN R := by
  induction R with
  | nil => cases ho
  | cons d r ih =>
    rw [sumN_cons]
    have h1 := (h d (by simp)).nn
    have h2 := sumN_nn (xs := r) fun o ho => h o (by simp [ho])
    rcases List.mem_cons.1 ho with rfl | ho
    · omega
    · have := ih (fun o ho => h o (by simp [ho])) ho; omega
theorem rmerge_eq {x : Opn} {R : List Opn} (hx : Tm x) (h1 : x.k = 1) (hR : ∀ o ∈ R, Tm o) (hb : sumN R + x.n ≤ 9223372036854775807) : rtell x R = rmerge x R := by
  cases R with
  | nil => rw [rtell_nil hx.len]; rfl
  | cons d r =>
    rw [rtell_else r hx.len (by omega)]
    by_cases ha : d.k = 1 ∧ d.pt = x.pt
    · have hd := (hR d (by simp)).ret ha.1
      rw [rmerge_yes r ha, rpush_yes r ⟨by omega, by rw [hd.1, (hx.ret h1).1], ha.2⟩, long, if_neg (by omega)]
      have := sumN_mem hR (o := d) (by simp)
      congr 2
      omega
    · rw [rmerge_no r ha, rpush_no r (fun hh => ha ⟨by rw [hh.1]; exact h1, hh.2.2⟩)]
/-- What is true of the two together. -/
structure RefI (xs : List Opn) : Prop where
  eq : refR xs = tellR xs
  hd : Hd1 (refS xs).1
  gp : Gp (refS xs).2
theorem gap_bound {g out R : List Opn} (he : gapR g ++ out = R) (hR : ∀ o ∈ R, Tm o) (hg : Gp g) : goneO g ≤ sumN R := by
  by_cases hz : 0 < goneO g
  · exact sumN_mem hR (o := delO (goneO g)) (by rw [← he, gapR, if_pos hz]; simp)
  · have := sumN_nn hR; omega
theorem ref_inv : ∀ (xs : List Opn), (∀ p ∈ xs, Tm p) → sumN xs ≤ 9223372036854775807 → RefI xs := fun xs => by
  induction xs using snoc_ind with
  | nil => intro _ _; exact ⟨rfl, fun l r e => (by cases e), fun o ho => (by cases ho)⟩
  | append_singleton xs x ih =>
    intro h hb
    rw [sumN_app] at hb
    have h3 : sumN [x] = x.n := by simp [sumN]
    have hx := h x (by simp)
    have ht : ∀ p ∈ xs, Tm p := fun o ho => h o (by simp [ho])
    have hnn := hx.nn
    obtain ⟨he, hh, hg⟩ := ih ht (by omega)
    have hs := tell_sumN xs ht
    have hT := tell_tm ht
    have hgb := gap_bound he hT hg
    by_cases h1 : x.k = 1
    · have e : refS (xs ++ [x]) = (rmerge x (tellR xs), []) := by rw [refS_snoc, refStep, if_pos h1, ← he]; rfl
      have em := rmerge_eq hx h1 hT (by omega)
      refine ⟨by rw [refR, e, tellR_snoc, em]; rfl, ?_, by rw [e]; intro o ho; cases ho⟩
      rw [e]
      intro l r el
      simp only at el
      cases hR : tellR xs with
      | nil => rw [hR] at el; injection el with el _; subst el; exact h1
      | cons d q =>
        rw [hR] at el
        by_cases ha : d.k = 1 ∧ d.pt = x.pt
        · rw [rmerge_yes q ha] at el; injection el with el _; subst el; exact ha.1
        · rw [rmerge_no q ha] at el; injection el with el _; subst el; exact h1
    · have e : refS (xs ++ [x]) = ((refS xs).1, (refS xs).2 ++ [x]) := by rw [refS_snoc, refStep, if_neg h1]
      refine ⟨?_, by rw [e]; exact hh, ?_⟩
      · rw [refR, e, tellR_snoc, ← he, refR, gap_step hg hh hx h1 (by omega)]
      · rw [e]
        intro o ho
        rcases List.mem_append.1 ho with ho | ho
        · exact hg o ho
        · obtain rfl := List.mem_singleton.1 ho; exact ⟨hx, h1⟩
theorem ref_form {xs : List Opn} (h : ∀ p ∈ xs, Tm p) (hb : sumN xs ≤ 9223372036854775807) : refO xs = formO xs := by rw [refO, (ref_inv xs h hb).eq]; rfl
/-! ### what is kept -/
theorem long_rs {l p : Opn} (hp : Tm p) (ha : Alike l p) : (long l p).rs.length = l.rs.length + p.rs.length := by
  unfold long
  split
  · simp
  · rename_i h2
    have : p.rs = [] := by
      rcases hp.kind with e | e | e
      · exact (hp.ret e).2.1
      · have := ha.1; omega
      · exact (hp.del e).2.2.1
    rw [this]; simp
theorem sumR_rtell {p : Opn} {R : List Opn} (hp : Tm p) : sumR (rtell p R) = sumR R + p.rs.length := by
  have hpush : ∀ r, sumR (rpush p r) = sumR r + p.rs.length := fun r => by
    cases r with
    | nil => rw [rpush_nil]; simp [sumR]
    | cons l r =>
      by_cases ha : Alike l p
      · rw [rpush_yes r ha, sumR_cons, sumR_cons, long_rs hp ha]; omega
      · rw [rpush_no r ha, sumR_cons, sumR_cons]; omega
  cases R with
  | nil => rw [rtell_nil hp.len]; simp [sumR]
  | cons d r =>
    by_cases hc : p.k = 2 ∧ d.k = 3
    · rw [rtell_del r hp.len hc.1 hc.2, sumR_cons, sumR_cons, hpush]; omega
    · rw [rtell_else r hp.len hc, hpush]
theorem goneO_cons (x : Opn) (r : List Opn) : goneO (x :: r) = (if x.k = 3 then x.n else 0) + goneO r := by simp [goneO]
theorem gone_rtell {p : Opn} {R : List Opn} (hp : Tm p) (hR : ∀ o ∈ R, Tm o) (hb : sumN R + p.n ≤ 9223372036854775807) : goneO (rtell p R) = goneO R + if p.k = 3 then p.n else 0 := by
  have hpush : ∀ r : List Opn, (∀ o ∈ r, o ∈ R) → goneO (rpush p r) = goneO r + if p.k = 3 then p.n else 0 := fun r hr => by
    cases r with
    | nil => rw [rpush_nil]; simp [goneO]
    | cons l r =>
      have hl : l.n ≤ sumN R := sumN_mem hR (hr l (by simp))
      by_cases ha : Alike l p
      · rw [rpush_yes r ha, goneO_cons, goneO_cons, (long_k l p).1, ha.1]
        by_cases h3 : p.k = 3
        · rw [if_pos h3, if_pos h3, if_pos h3]
          have : (long l p).n = l.n + p.n := by
            unfold long
            rw [if_neg (by have := ha.1; omega)]
            simp only
            omega
          omega
        · rw [if_neg h3, if_neg h3, if_neg h3]; omega
      · rw [rpush_no r ha, goneO_cons, goneO_cons]; omega
  cases R with
  | nil => rw [rtell_nil hp.len]; simp [goneO]
  | cons d r =>
    by_cases hc : p.k = 2 ∧ d.k = 3
    · rw [rtell_del r hp.len hc.1 hc.2, goneO_cons, goneO_cons, hpush r (fun o ho => by simp [ho])]; omega
    · rw [rtell_else r hp.len hc, hpush _ (fun o ho => ho)]
theorem len_rtell (p : Opn) (R : List Opn) : (rtell p R).length ≤ R.length + 1 := by
  have hpush : ∀ r, (rpush p r).length ≤ r.length + 1 := fun r => by
    cases r with
    | nil => simp [rpush_nil]
    | cons l r =>
      by_cases ha : Alike l p
      · rw [rpush_yes r ha]; simp
      · rw [rpush_no r ha]; simp
  by_cases hl : lenN p < 1
  · rw [rtell_zero hl]; omega
  cases R with
  | nil => rw [rtell_nil (by omega)]; simp
  | cons d r =>
    by_cases hc : p.k = 2 ∧ d.k = 3
    · rw [rtell_del r (by omega) hc.1 hc.2, List.length_cons, List.length_cons]; have := hpush r; omega
    · rw [rtell_else r (by omega) hc]; exact hpush _
structure Kept (xs R : List Opn) : Prop where
  rs : sumR R = sumR xs
  gone : goneO R = goneO xs
  len : R.length ≤ xs.length
theorem tell_kept : ∀ (xs : List Opn), (∀ p ∈ xs, Tm p) → sumN xs ≤ 9223372036854775807 → Kept xs (tellR xs) := fun xs => by
  induction xs using snoc_ind with
  | nil => intro _ _; exact ⟨rfl, rfl, Nat.le_refl _⟩
  | append_singleton xs x ih =>
    intro h hb
    rw [sumN_app] at hb
    have h3 : sumN [x] = x.n := by simp [sumN]
    have hx := h x (by simp)
    have ht : ∀ p ∈ xs, Tm p := fun o ho => h o (by simp [ho])
    have hnn := hx.nn
    obtain ⟨h1, h2, h4⟩ := ih ht (by omega)
    have hs := tell_sumN xs ht
    refine ⟨?_, ?_, ?_⟩
    · rw [tellR_snoc, sumR_rtell hx, h1, sumR_app]; simp [sumR]
    · rw [tellR_snoc, gone_rtell hx (tell_tm ht) (by omega), h2, goneO_app, goneO_one]
    · rw [tellR_snoc]
      have := len_rtell x (tellR xs)
      simp
      omega
theorem sumR_rev (xs : List Opn) : sumR xs.reverse = sumR xs := by
  induction xs with
  | nil => rfl
  | cons x r ih => rw [List.reverse_cons, sumR_app, ih, sumR_cons]; simp [sumR]; omega
theorem goneO_rev (xs : List Opn) : goneO xs.reverse = goneO xs := by
  induction xs with
  | nil => rfl
  | cons x r ih => rw [List.reverse_cons, goneO_app, ih, goneO_one, goneO_cons]; omega
theorem form_kept {xs : List Opn} (h : ∀ p ∈ xs, Tm p) (hb : sumN xs ≤ 9223372036854775807) : Kept xs (formO xs) := by
  obtain ⟨h1, h2, h3⟩ := tell_kept xs h hb
  have hT := tell_tm h
  unfold formO
  have key : sumR (settleR (tellR xs)) = sumR (tellR xs) ∧ goneO (settleR (tellR xs)) = goneO (tellR xs) ∧ (settleR (tellR xs)).length ≤ (tellR xs).length := by
    cases hR : tellR xs with
    | nil => exact ⟨rfl, rfl, Nat.le_refl _⟩
    | cons o r =>
      by_cases hi : Idle o
      · rw [settleR_yes r hi, sumR_cons, goneO_cons, ((hT o (by rw [hR]; simp)).ret hi.1).2.1, if_neg (by have := hi.1; omega)]
        exact ⟨by simp, by omega, by simp⟩
      · rw [settleR_no r hi]; exact ⟨rfl, rfl, Nat.le_refl _⟩
  refine ⟨?_, ?_, ?_⟩
  · rw [sumR_rev, key.1, h1]
  · rw [goneO_rev, key.2.1, h2]
  · rw [List.length_reverse]; omega
/-! ### another order of telling -/
def flushY (ahead : Bool) (gap : List Opn) (gone : Int) : List Opn := (if 0 < gone ∧ ahead = true then [delO gone] else []) ++ gap ++ (if 0 < gone ∧ ahead = false then [delO gone] else [])
structure ManyS where
  y : List Opn
  gap : List Opn
  gone : Int
def manyStep (ahead : Bool) (s : ManyS) (x : Opn) : ManyS := if x.k = 1 then ⟨s.y ++ flushY ahead s.gap s.gone ++ [x], [], 0⟩ else if x.k = 2 then ⟨s.y, s.gap ++ [x], s.gone⟩ else ⟨s.y, s.gap, s.gone + x.n⟩
def manyS (ahead : Bool) (xs : List Opn) : ManyS := xs.foldl (manyStep ahead) ⟨[], [], 0⟩
def manyY (ahead : Bool) (xs : List Opn) : List Opn := (manyS ahead xs).y ++ flushY ahead (manyS ahead xs).gap (manyS ahead xs).gone
theorem manyS_snoc (ahead : Bool) (xs : List Opn) (x : Opn) : manyS ahead (xs ++ [x]) = manyStep ahead (manyS ahead xs) x := by simp [manyS]
theorem fold_gap {out : List Opn} (h1 : Hd1 out) : ∀ (g : List Opn), Gp g → goneO g ≤ 9223372036854775807 → g.foldl (fun R p => rtell p R) out = gapR g ++ out := fun g => by
  induction g using snoc_ind with
  | nil => intro _ _; rfl
  | append_singleton g x ih =>
    intro hg hb
    rw [goneO_app, goneO_one] at hb
    obtain ⟨hx, hk⟩ := hg x (by simp)
    have hg' : Gp g := fun o ho => hg o (by simp [ho])
    have h0 := gone_nn fun o ho => (hg' o ho).1
    have hnn := hx.nn
    have hn : goneO g + x.n ≤ 9223372036854775807 := by
      rcases hx.kind with e | e | e
      · exact absurd e hk
      · rw [if_neg (by omega)] at hb; have := (hx.ins e).1; omega
      · rw [if_pos e] at hb; exact hb
    rw [List.foldl_append, ih hg' (by split at hb <;> omega), List.foldl_cons, List.foldl_nil, gap_step hg' h1 hx hk hn]
theorem goneO_ins : ∀ g : List Opn, goneO (insO g) = 0
  | [] => rfl
  | x :: r => by
    by_cases h : x.k = 3
    · have : insO (x :: r) = insO r := by simp [insO, h]
      rw [this]; exact goneO_ins r
    · have : insO (x :: r) = x :: insO r := by simp [insO, h]
      rw [this, goneO_cons, if_neg h, goneO_ins r]; rfl
theorem insO_ins (g : List Opn) : insO (insO g) = insO g := by simp [insO]
theorem flush_gap (ahead : Bool) {g : List Opn} (hg : Gp g) (hb : goneO g ≤ 9223372036854775807) : Gp (flushY ahead (insO g) (goneO g)) ∧ goneO (flushY ahead (insO g) (goneO g)) = goneO g ∧ gapR (flushY ahead (insO g) (goneO g)) = gapR g := by
  have h0 := gone_nn fun o ho => (hg o ho).1
  have hi : Gp (insO g) := fun o ho => hg o (List.mem_filter.1 ho).1
  have htd : 0 < goneO g → Tm (delO (goneO g)) := fun hz => ⟨fun e => (by cases e), fun e => (by cases e), fun _ => ⟨rfl, rfl, rfl, hz⟩, .inr (.inr rfl), hb⟩
  have hd : 0 < goneO g → Gp [delO (goneO g)] := fun hz o ho => by obtain rfl := List.mem_singleton.1 ho; exact ⟨htd hz, by simp [delO]⟩
  have e1 : goneO [delO (goneO g)] = goneO g := by rw [goneO_one]; rfl
  have e2 : insO [delO (goneO g)] = [] := rfl
  have happ : ∀ {a b : List Opn}, Gp a → Gp b → Gp (a ++ b) := fun ha hb o ho => (List.mem_append.1 ho).elim (ha o) (hb o)
  unfold flushY
  by_cases hz : 0 < goneO g
  · cases ahead
    · rw [if_neg (by simp), if_pos ⟨hz, rfl⟩, List.nil_append]
      have e3 : goneO (insO g ++ [delO (goneO g)]) = goneO g := by rw [goneO_app, goneO_ins, e1]; omega
      refine ⟨happ hi (hd hz), e3, ?_⟩
      unfold gapR
      rw [e3, insO_app, insO_ins, e2, List.append_nil]
    · rw [if_pos ⟨hz, rfl⟩, if_neg (by simp), List.append_nil]
      have e3 : goneO ([delO (goneO g)] ++ insO g) = goneO g := by rw [goneO_app, goneO_ins, e1]; omega
      refine ⟨happ (hd hz) hi, e3, ?_⟩
      unfold gapR
      rw [e3, insO_app, insO_ins, e2, List.nil_append]
  · rw [if_neg (fun h => hz h.1), if_neg (fun h => hz h.1), List.append_nil, List.nil_append]
    have e3 : goneO (insO g) = goneO g := by rw [goneO_ins]; omega
    refine ⟨hi, e3, ?_⟩
    unfold gapR
    rw [e3, insO_ins]
theorem tell_app (a b : List Opn) : tellR (a ++ b) = b.foldl (fun R p => rtell p R) (tellR a) := by simp [tellR]
structure ManyI (ahead : Bool) (xs : List Opn) : Prop where
  y : tellR (manyS ahead xs).y = (refS xs).1
  gap : (manyS ahead xs).gap = insO (refS xs).2
  gone : (manyS ahead xs).gone = goneO (refS xs).2
  tm : ∀ o ∈ (manyS ahead xs).y, Tm o
theorem many_inv (ahead : Bool) : ∀ (xs : List Opn), (∀ p ∈ xs, Tm p) → sumN xs ≤ 9223372036854775807 → ManyI ahead xs := fun xs => by
  induction xs using snoc_ind with
  | nil => intro _ _; exact ⟨rfl, rfl, rfl, by simp [manyS]⟩
  | append_singleton xs x ih =>
    intro h hb
    rw [sumN_app] at hb
    have h3 : sumN [x] = x.n := by simp [sumN]
    have hx := h x (by simp)
    have ht : ∀ p ∈ xs, Tm p := fun o ho => h o (by simp [ho])
    have hnn := hx.nn
    obtain ⟨i1, i2, i3, i4⟩ := ih ht (by omega)
    obtain ⟨he, hh, hg⟩ := ref_inv xs ht (by omega)
    have hs := tell_sumN xs ht
    have hT := tell_tm ht
    have hgb := gap_bound he hT hg
    by_cases h1 : x.k = 1
    · obtain ⟨f1, f2, f3⟩ := flush_gap ahead hg (by omega)
      have e : refS (xs ++ [x]) = (rmerge x (tellR xs), []) := by rw [refS_snoc, refStep, if_pos h1, ← he]; rfl
      have em := rmerge_eq hx h1 hT (by omega)
      have e2 : manyS ahead (xs ++ [x]) = ⟨(manyS ahead xs).y ++ flushY ahead (manyS ahead xs).gap (manyS ahead xs).gone ++ [x], [], 0⟩ := by rw [manyS_snoc, manyStep, if_pos h1]
      refine ⟨?_, by rw [e2, e]; rfl, by rw [e2, e]; rfl, ?_⟩
      · rw [e2, e, tellR_snoc, tell_app, i1, i2, i3, fold_gap hh _ f1 (by omega), f3, ← em, ← he]; rfl
      · rw [e2, i2, i3]
        intro o ho
        rcases List.mem_append.1 ho with ho | ho
        · rcases List.mem_append.1 ho with ho | ho
          · exact i4 o ho
          · exact (f1 o ho).1
        · obtain rfl := List.mem_singleton.1 ho; exact hx
    · have e : refS (xs ++ [x]) = ((refS xs).1, (refS xs).2 ++ [x]) := by rw [refS_snoc, refStep, if_neg h1]
      by_cases h2 : x.k = 2
      · have e2 : manyS ahead (xs ++ [x]) = ⟨(manyS ahead xs).y, (manyS ahead xs).gap ++ [x], (manyS ahead xs).gone⟩ := by rw [manyS_snoc, manyStep, if_neg h1, if_pos h2]
        refine ⟨by rw [e2, e]; exact i1, ?_, ?_, by rw [e2]; exact i4⟩
        · rw [e2, e, i2, insO_app, insO_yes (by omega)]
        · rw [e2, e, i3, goneO_app, goneO_one, if_neg (by omega)]; simp
      · have h3' : x.k = 3 := by rcases hx.kind with e | e | e <;> omega
        have e2 : manyS ahead (xs ++ [x]) = ⟨(manyS ahead xs).y, (manyS ahead xs).gap, (manyS ahead xs).gone + x.n⟩ := by rw [manyS_snoc, manyStep, if_neg h1, if_neg h2]
        refine ⟨by rw [e2, e]; exact i1, ?_, ?_, by rw [e2]; exact i4⟩
        · rw [e2, e, i2, insO_app, insO_no h3', List.append_nil]
        · rw [e2, e, i3, goneO_app, goneO_one, if_pos h3']
theorem many_form (ahead : Bool) {xs : List Opn} (h : ∀ p ∈ xs, Tm p) (hb : sumN xs ≤ 9223372036854775807) : formO (manyY ahead xs) = formO xs := by
  obtain ⟨i1, i2, i3, i4⟩ := many_inv ahead xs h hb
  obtain ⟨he, hh, hg⟩ := ref_inv xs h hb
  have hgb := gap_bound he (tell_tm h) hg
  have hs := tell_sumN xs h
  obtain ⟨f1, f2, f3⟩ := flush_gap ahead hg (by omega)
  have : tellR (manyY ahead xs) = tellR xs := by rw [manyY, tell_app, i1, i2, i3, fold_gap hh _ f1 (by omega), f3, ← he]; rfl
  unfold formO
  rw [this]
end Go.Proofs.Ytmbjjaflgdfihaa
