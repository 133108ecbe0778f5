
import Derived.Test.YteodfbkfpboehaaDN
/- EA: lists of runs as plain data: their records, proper ones -/
namespace Go.Proofs.Yteodfbkfpboehaa
open Go.RowKit
set_option linter.unusedVariables false

/-- The records of runs, one behind the other. -/
def flat (l : List Ck) : List (List Att) := l.flatMap fun x => List.replicate x.n x.d.s
theorem flat_nil : flat [] = [] := rfl
theorem flat_cons (x : Ck) (l : List Ck) : flat (x :: l) = List.replicate x.n x.d.s ++ flat l := by simp [flat]
theorem flat_app (a b : List Ck) : flat (a ++ b) = flat a ++ flat b := by simp [flat]
theorem flat_len (l : List Ck) : (flat l).length = lnS l := by
  induction l with
  | nil => rfl
  | cons x l ih => rw [flat_cons, List.length_append, ih]; simp [lnS]
theorem flat_l (x : Ck) : flat x.l = List.replicate x.n x.d.s := by
  unfold Ck.l
  split
  · simp_all [flat]
  · simp [flat]
theorem lnS_cons (x : Ck) (l : List Ck) : lnS (x :: l) = x.n + lnS l := by simp [lnS]
/-- No run is empty, no two neighbours are alike. -/
def Pr : List Ck → Prop
  | [] => True
  | x :: l => 0 < x.n ∧ (∀ y, l.head? = some y → x.d.s ≠ y.d.s) ∧ Pr l
theorem pr_one {x : Ck} (h : 0 < x.n) : Pr [x] := ⟨h, fun y hy => (by cases hy), trivial⟩
theorem pr_app : ∀ {a b : List Ck}, Pr (a ++ b) ↔ Pr a ∧ Pr b ∧ ∀ x y, a.getLast? = some x → b.head? = some y → x.d.s ≠ y.d.s
  | [], b => by simp [Pr]
  | [z], b => by
    show (0 < z.n ∧ (∀ y, b.head? = some y → z.d.s ≠ y.d.s) ∧ Pr b) ↔ _
    constructor
    · rintro ⟨h1, h2, h3⟩
      refine ⟨pr_one h1, h3, fun x y hx hy => ?_⟩
      simp only [List.getLast?_singleton, Option.some.injEq] at hx
      subst hx
      exact h2 y hy
    · rintro ⟨h1, h2, h3⟩
      exact ⟨h1.1, fun y hy => h3 z y (by simp) hy, h2⟩
  | z :: u :: a, b => by
    have ih := pr_app (a := u :: a) (b := b)
    have e : (z :: u :: a).getLast? = (u :: a).getLast? := by simp
    have h1 : Pr (z :: u :: a ++ b) ↔ 0 < z.n ∧ z.d.s ≠ u.d.s ∧ Pr (u :: a ++ b) := by
      show (0 < z.n ∧ (∀ y, (u :: a ++ b).head? = some y → z.d.s ≠ y.d.s) ∧ Pr (u :: a ++ b)) ↔ _
      simp
    have h2 : Pr (z :: u :: a) ↔ 0 < z.n ∧ z.d.s ≠ u.d.s ∧ Pr (u :: a) := by
      show (0 < z.n ∧ (∀ y, (u :: a).head? = some y → z.d.s ≠ y.d.s) ∧ Pr (u :: a)) ↔ _
      simp
    rw [h1, h2, ih, e]
    constructor
    · rintro ⟨q1, q2, q3, q4, q5⟩; exact ⟨⟨q1, q2, q3⟩, q4, q5⟩
    · rintro ⟨⟨q1, q2, q3⟩, q4, q5⟩; exact ⟨q1, q2, q3, q4, q5⟩
theorem pr_next {p s : List Ck} {x y : Ck} (h1 : Pr (p ++ [x])) (h2 : Pr (y :: s)) (h : x.d.s ≠ y.d.s) : Pr ((p ++ [x]) ++ (y :: s)) := by
  refine pr_app.2 ⟨h1, h2, fun u v hu hv => ?_⟩
  simp only [List.getLast?_append, List.getLast?_singleton, Option.some_or, Option.some.injEq] at hu
  simp only [List.head?_cons, Option.some.injEq] at hv
  subst hu; subst hv; exact h
theorem pr_meld {p s : List Ck} {x y : Ck} (h1 : Pr (p ++ [x])) (h2 : Pr (y :: s)) (h : x.d.s = y.d.s) : Pr ((p ++ (melK x y).l) ++ s) := by
  obtain ⟨a1, a2, a3⟩ := pr_app.1 h1
  obtain ⟨b1, b2, b3⟩ := h2
  have hx : 0 < x.n := a2.1
  have el : (melK x y).l = [melK x y] := by
    unfold Ck.l melK
    rw [if_neg (show ¬ x.n + y.n = 0 by omega)]
  rw [el]
  refine pr_app.2 ⟨pr_app.2 ⟨a1, pr_one (show 0 < x.n + y.n by omega), fun u v hu hv => ?_⟩, b3, fun u v hu hv => ?_⟩
  · simp only [List.head?_cons, Option.some.injEq] at hv
    subst hv
    exact a3 u x hu rfl
  · simp only [List.getLast?_append, List.getLast?_singleton, Option.some_or, Option.some.injEq] at hu
    subst hu
    show x.d.s ≠ v.d.s
    rw [h]
    exact b2 v hv
theorem flat_meld {p s : List Ck} {x y : Ck} (h : x.d.s = y.d.s) : flat ((p ++ (melK x y).l) ++ s) = flat (p ++ [x]) ++ flat (y :: s) := by
  simp only [flat_app, flat_l, flat_cons, flat_nil, List.append_nil, List.append_assoc]
  show _ ++ (List.replicate (x.n + y.n) x.d.s ++ _) = _
  rw [← List.replicate_append_replicate, h, List.append_assoc]

theorem pr_pos : ∀ {L : List Ck}, Pr L → ∀ x ∈ L, 0 < x.n
  | [], _, x, hx => by cases hx
  | y :: L, h, x, hx => by
    rcases List.mem_cons.1 hx with rfl | hx
    · exact h.1
    · exact pr_pos h.2.2 x hx
theorem len_flat : ∀ {L : List Ck}, Pr L → L.length ≤ (flat L).length
  | [], _ => Nat.le_refl _
  | x :: L, h => by
    have ih := len_flat h.2.2
    have := h.1
    rw [flat_cons, List.length_append, List.length_replicate, List.length_cons]
    omega
/-- What a row of n records weighs at most. -/
def wq (l : List (List Att)) : Nat := 10001 * l.length
theorem wt_flat {L : List Ck} (h : Pr L) : Wc.wt L ≤ wq (flat L) := by
  have h1 := len_flat h
  have h2 : Wc.ln L = (flat L).length := (flat_len L).symm
  unfold Way.wt wq
  omega

/-! ### a tree's last thing, and its first one -/
theorem l_one {x : Ck} (h : 0 < x.l.length) : x.l = [x] ∧ 0 < x.n := by
  by_cases hx : x.n = 0
  · unfold Ck.l at h; rw [if_pos hx] at h; cases h
  · exact ⟨by unfold Ck.l; rw [if_neg hx], by omega⟩
theorem Tr.In.lastx {A : ArS Nd} {C : ArS Ck} : ∀ {T : TC}, T.In Wc A C → T ≠ .nil → ∃ p, T.el Wc = p ++ [T.lastx] ∧ T.lastx.l = [T.lastx] ∧ 0 < T.lastx.n
  | .nil, _, h => absurd rfl h
  | .leaf n t x, h, _ => by
    obtain ⟨h1, h2⟩ := l_one h.2.2
    exact ⟨[], h1, h1, h2⟩
  | .fork n l r, h, _ => by
    obtain ⟨p, e, h1, h2⟩ := h.2.2.2.2.lastx h.2.2.1
    exact ⟨l.el Wc ++ p, by rw [Tr.el, e, List.append_assoc]; rfl, h1, h2⟩
theorem Tr.In.firstx {A : ArS Nd} {C : ArS Ck} : ∀ {T : TC}, T.In Wc A C → T ≠ .nil → ∃ p, T.el Wc = T.firstx :: p ∧ T.firstx.l = [T.firstx] ∧ 0 < T.firstx.n
  | .nil, _, h => absurd rfl h
  | .leaf n t x, h, _ => by
    obtain ⟨h1, h2⟩ := l_one h.2.2
    exact ⟨[], h1, h1, h2⟩
  | .fork n l r, h, _ => by
    obtain ⟨p, e, h1, h2⟩ := h.2.2.2.1.firstx h.2.1
    exact ⟨p ++ r.el Wc, by rw [Tr.el, e]; rfl, h1, h2⟩
end Go.Proofs.Yteodfbkfpboehaa
