
import Derived.Test.YtoppgdhidnpibaaWN
/- KA: lists of spans as plain data: their numbers, proper ones, the runs of a row -/
namespace Go.Proofs.Ytoppgdhidnpibaa
open Go.RowKit
set_option linter.unusedVariables false

/-- The numbers of spans, one behind the other. -/
def flat (l : List Ck) : List Int := l.flatMap fun x => List.replicate x.n x.d
theorem flat_nil : flat [] = [] := rfl
theorem flat_cons (x : Ck) (l : List Ck) : flat (x :: l) = List.replicate x.n x.d ++ flat l := by simp [flat]
theorem flat_app (a b : List Ck) : flat (a ++ b) = flat a ++ flat b := by simp [flat]
theorem flat_len (l : List Ck) : (flat l).length = lnS l := by
  induction l with
  | nil => rfl
  | cons x l ih => rw [flat_cons, List.length_append, ih]; simp [lnS]
theorem flat_l (x : Ck) : flat x.l = List.replicate x.n x.d := by
  unfold Ck.l
  split
  · simp_all [flat]
  · simp [flat]
theorem lnS_cons (x : Ck) (l : List Ck) : lnS (x :: l) = x.n + lnS l := by simp [lnS]
/-- No span is empty, no two neighbours are alike. -/
def Pr : List Ck → Prop
  | [] => True
  | x :: l => 0 < x.n ∧ (∀ y, l.head? = some y → x.d ≠ y.d) ∧ Pr l
theorem pr_one {x : Ck} (h : 0 < x.n) : Pr [x] := ⟨h, fun y hy => (by cases hy), trivial⟩
theorem pr_app : ∀ {a b : List Ck}, Pr (a ++ b) ↔ Pr a ∧ Pr b ∧ ∀ x y, a.getLast? = some x → b.head? = some y → x.d ≠ y.d
  | [], b => by simp [Pr]
  | [z], b => by
    show (0 < z.n ∧ (∀ y, b.head? = some y → z.d ≠ y.d) ∧ Pr b) ↔ _
    constructor
    · rintro ⟨h1, h2, h3⟩
      refine ⟨pr_one h1, h3, fun x y hx hy => ?_⟩
      simp only [List.getLast?_singleton, Option.some.injEq] at hx
      subst hx
      exact h2 y hy
    · rintro ⟨h1, h2, h3⟩
      exact ⟨h1.1, fun y hy => h3 z y (by simp) hy, h2⟩
  | z :: u :: a, b => by
    have ih := pr_app (a := u :: a) (b := b)
    have e : (z :: u :: a).getLast? = (u :: a).getLast? := by simp
    have h1 : Pr (z :: u :: a ++ b) ↔ 0 < z.n ∧ z.d ≠ u.d ∧ Pr (u :: a ++ b) := by
      show (0 < z.n ∧ (∀ y, (u :: a ++ b).head? = some y → z.d ≠ y.d) ∧ Pr (u :: a ++ b)) ↔ _
      simp
    have h2 : Pr (z :: u :: a) ↔ 0 < z.n ∧ z.d ≠ u.d ∧ Pr (u :: a) := by
      show (0 < z.n ∧ (∀ y, (u :: a).head? = some y → z.d ≠ y.d) ∧ Pr (u :: a)) ↔ _
      simp
    rw [h1, h2, ih, e]
    constructor
    · rintro ⟨q1, q2, q3, q4, q5⟩; exact ⟨⟨q1, q2, q3⟩, q4, q5⟩
    · rintro ⟨⟨q1, q2, q3⟩, q4, q5⟩; exact ⟨q1, q2, q3, q4, q5⟩
theorem pr_next {p s : List Ck} {x y : Ck} (h1 : Pr (p ++ [x])) (h2 : Pr (y :: s)) (h : x.d ≠ y.d) : Pr ((p ++ [x]) ++ (y :: s)) := by
  refine pr_app.2 ⟨h1, h2, fun u v hu hv => ?_⟩
  simp only [List.getLast?_append, List.getLast?_singleton, Option.some_or, Option.some.injEq] at hu
  simp only [List.head?_cons, Option.some.injEq] at hv
  subst hu; subst hv; exact h
theorem pr_meld {p s : List Ck} {x y : Ck} (h1 : Pr (p ++ [x])) (h2 : Pr (y :: s)) (h : x.d = y.d) : Pr ((p ++ (melK x y).l) ++ s) := by
  obtain ⟨a1, a2, a3⟩ := pr_app.1 h1
  obtain ⟨b1, b2, b3⟩ := h2
  have hx : 0 < x.n := a2.1
  have el : (melK x y).l = [melK x y] := by
    unfold Ck.l melK
    rw [if_neg (show ¬ x.n + y.n = 0 by omega)]
  rw [el]
  refine pr_app.2 ⟨pr_app.2 ⟨a1, pr_one (show 0 < x.n + y.n by omega), fun u v hu hv => ?_⟩, b3, fun u v hu hv => ?_⟩
  · simp only [List.head?_cons, Option.some.injEq] at hv
    subst hv
    exact a3 u x hu rfl
  · simp only [List.getLast?_append, List.getLast?_singleton, Option.some_or, Option.some.injEq] at hu
    subst hu
    show x.d ≠ v.d
    rw [h]
    exact b2 v hv
theorem flat_meld {p s : List Ck} {x y : Ck} (h : x.d = y.d) : flat ((p ++ (melK x y).l) ++ s) = flat (p ++ [x]) ++ flat (y :: s) := by
  simp only [flat_app, flat_l, flat_cons, flat_nil, List.append_nil, List.append_assoc]
  show _ ++ (List.replicate (x.n + y.n) x.d ++ _) = _
  rw [← List.replicate_append_replicate, h, List.append_assoc]

/-! ### the runs of a row -/
def rlc (i : Int) : List Ck → List Ck
  | [] => [⟨1, i⟩]
  | x :: r => if i = x.d then ⟨x.n + 1, i⟩ :: r else ⟨1, i⟩ :: x :: r
theorem rlc_cons (i : Int) (x : Ck) (r : List Ck) : rlc i (x :: r) = if i = x.d then ⟨x.n + 1, i⟩ :: r else ⟨1, i⟩ :: x :: r := rfl
def rl : List Int → List Ck
  | [] => []
  | i :: l => rlc i (rl l)
theorem rlc_flat (i : Int) (r : List Ck) : flat (rlc i r) = i :: flat r := by
  cases r with
  | nil => simp [rlc, flat]
  | cons x r =>
    rw [rlc_cons]
    split
    · rename_i h
      rw [flat_cons, flat_cons, h, List.replicate_succ]; rfl
    · rw [flat_cons]; simp
theorem rl_flat : ∀ l, flat (rl l) = l
  | [] => rfl
  | i :: l => by rw [rl, rlc_flat, rl_flat l]
theorem rlc_pr (i : Int) {r : List Ck} (h : Pr r) : Pr (rlc i r) := by
  cases r with
  | nil => exact pr_one Nat.one_pos
  | cons x r =>
    rw [rlc_cons]
    split
    · rename_i he
      exact ⟨Nat.succ_pos _, fun y hy => by show i ≠ y.d; rw [he]; exact h.2.1 y hy, h.2.2⟩
    · rename_i he
      exact ⟨Nat.one_pos, fun y hy => by simp only [List.head?_cons, Option.some.injEq] at hy; subst hy; exact he, h⟩
theorem rl_pr : ∀ l, Pr (rl l)
  | [] => trivial
  | i :: l => rlc_pr i (rl_pr l)
theorem rl_run (d : Int) : ∀ (n : Nat) (l : List Int), 0 < n → (∀ y, (rl l).head? = some y → d ≠ y.d) → rl (List.replicate n d ++ l) = ⟨n, d⟩ :: rl l
  | 0, l, h, _ => absurd h (by omega)
  | 1, l, _, h => by
    show rlc d (rl l) = _
    cases e : rl l with
    | nil => rfl
    | cons x r =>
      rw [rlc_cons]
      rw [if_neg (h x (by rw [e]; rfl))]
  | n + 2, l, _, h => by
    have ih := rl_run d (n + 1) l (Nat.succ_pos _) h
    show rlc d (rl (List.replicate (n + 1) d ++ l)) = _
    rw [ih]
    rw [rlc_cons]
    rw [if_pos rfl]
theorem rl_of : ∀ {l : List Ck}, Pr l → rl (flat l) = l
  | [], _ => rfl
  | x :: l, h => by
    have ih := rl_of h.2.2
    rw [flat_cons, rl_run x.d x.n (flat l) h.1 (by rw [ih]; exact h.2.1), ih]
/-- Proper spans of the same numbers are the same. -/
theorem pr_ext {a b : List Ck} (ha : Pr a) (hb : Pr b) (h : flat a = flat b) : a = b := by rw [← rl_of ha, ← rl_of hb, h]
/-- How many spans a row has. -/
def cntR (l : List Int) : Nat := (rl l).length
theorem cntR_cons (i : Int) (l : List Int) : cntR (i :: l) = if l.head? = some i then cntR l else cntR l + 1 := by
  have hd : ∀ l : List Int, (rl l).head?.map Ck.d = l.head? := by
    intro l
    cases l with
    | nil => rfl
    | cons j l =>
      show (rlc j (rl l)).head?.map Ck.d = _
      cases rl l with
      | nil => rfl
      | cons x r => rw [rlc_cons]; split <;> rfl
  have := hd l
  unfold cntR
  show (rlc i (rl l)).length = _
  cases e : rl l with
  | nil =>
    rw [e] at this
    rw [← this]
    simp [rlc]
  | cons x r =>
    rw [e] at this
    rw [← this]
    rw [rlc_cons]
    by_cases h : i = x.d
    · rw [if_pos h, if_pos (by simp [h])]; rfl
    · rw [if_neg h, if_neg (by simp; exact fun q => h q.symm)]; rfl
theorem cntR_nil : cntR [] = 0 := rfl
theorem cntR_app : ∀ (a b : List Int), cntR (a ++ b) ≤ cntR a + cntR b ∧ cntR a + cntR b ≤ cntR (a ++ b) + 1
  | [], b => by simp [cntR_nil]
  | [i], b => by
    have e1 : cntR [i] = 1 := rfl
    show cntR (i :: b) ≤ _ ∧ _ ≤ cntR (i :: b) + 1
    rw [cntR_cons, e1]
    split <;> omega
  | i :: j :: a, b => by
    have ih := cntR_app (j :: a) b
    show cntR (i :: (j :: a ++ b)) ≤ _ ∧ _ ≤ cntR (i :: (j :: a ++ b)) + 1
    rw [cntR_cons, cntR_cons i (j :: a)]
    have e : (j :: a ++ b).head? = (j :: a).head? := rfl
    rw [e]
    split <;> omega
theorem cntR_le : ∀ (l : List Int), cntR l ≤ l.length
  | [] => Nat.le_refl _
  | i :: l => by
    have := cntR_le l
    rw [cntR_cons, List.length_cons]
    split <;> omega
theorem rlc_pos (i : Int) (r : List Ck) : 0 < (rlc i r).length := by
  cases r with
  | nil => exact Nat.one_pos
  | cons x r => rw [rlc_cons]; split <;> simp
theorem cntR_pos {l : List Int} (h : l ≠ []) : 0 < cntR l := by
  cases l with
  | nil => exact absurd rfl h
  | cons i l => exact rlc_pos i (rl l)
theorem cntR_cut (l : List Int) (i : Nat) : cntR (l.take i) + cntR (l.drop i) ≤ cntR l + 1 := by
  have := (cntR_app (l.take i) (l.drop i)).2
  rwa [List.take_append_drop] at this
theorem cntR_take (l : List Int) (i : Nat) : cntR (l.take i) ≤ cntR l := by
  have h := cntR_cut l i
  by_cases hd : l.drop i = []
  · rw [List.drop_eq_nil_iff] at hd
    rw [List.take_of_length_le hd]
    exact Nat.le_refl _
  · have := cntR_pos hd
    omega
theorem cntR_drop (l : List Int) (i : Nat) : cntR (l.drop i) ≤ cntR l := by
  have h := cntR_cut l i
  cases i with
  | zero => simp
  | succ i =>
    cases l with
    | nil => simp
    | cons j l =>
      have := cntR_pos (l := List.take (i + 1) (j :: l)) (by simp)
      omega
theorem lnS_rl (l : List Int) : lnS (rl l) = l.length := by rw [← flat_len, rl_flat]
theorem wt_pr {l : List Ck} (h : Pr l) : Wc.wt l = (flat l).length + 10000 * cntR (flat l) := by
  unfold Way.wt cntR
  rw [rl_of h, flat_len]; rfl
theorem cntR_flat : ∀ (l : List Ck), cntR (flat l) ≤ l.length
  | [] => Nat.le_refl _
  | x :: l => by
    have ih := cntR_flat l
    rw [flat_cons]
    have h := (cntR_app (List.replicate x.n x.d) (flat l)).1
    have h2 : cntR (List.replicate x.n x.d) ≤ 1 := by
      by_cases hx : x.n = 0
      · rw [hx]; exact Nat.zero_le _
      · have := rl_run x.d x.n [] (by omega) (fun y hy => by cases hy)
        rw [List.append_nil] at this
        unfold cntR; rw [this]; exact Nat.le_refl _
    rw [List.length_cons]
    omega

/-! ### a tree's last thing, and its first one -/
theorem l_one {x : Ck} (h : 0 < x.l.length) : x.l = [x] ∧ 0 < x.n := by
  by_cases hx : x.n = 0
  · unfold Ck.l at h; rw [if_pos hx] at h; cases h
  · exact ⟨by unfold Ck.l; rw [if_neg hx], by omega⟩
theorem Tr.In.lastx {A : ArS Nd} {C : ArS Ck} : ∀ {T : TC}, T.In Wc A C → T ≠ .nil → ∃ p, T.el Wc = p ++ [T.lastx] ∧ T.lastx.l = [T.lastx] ∧ 0 < T.lastx.n
  | .nil, _, h => absurd rfl h
  | .leaf n t x, h, _ => by
    obtain ⟨h1, h2⟩ := l_one h.2.2
    exact ⟨[], h1, h1, h2⟩
  | .fork n l r, h, _ => by
    obtain ⟨p, e, h1, h2⟩ := h.2.2.2.2.lastx h.2.2.1
    exact ⟨l.el Wc ++ p, by rw [Tr.el, e, List.append_assoc]; rfl, h1, h2⟩
theorem Tr.In.firstx {A : ArS Nd} {C : ArS Ck} : ∀ {T : TC}, T.In Wc A C → T ≠ .nil → ∃ p, T.el Wc = T.firstx :: p ∧ T.firstx.l = [T.firstx] ∧ 0 < T.firstx.n
  | .nil, _, h => absurd rfl h
  | .leaf n t x, h, _ => by
    obtain ⟨h1, h2⟩ := l_one h.2.2
    exact ⟨[], h1, h1, h2⟩
  | .fork n l r, h, _ => by
    obtain ⟨p, e, h1, h2⟩ := h.2.2.2.1.firstx h.2.1
    exact ⟨p ++ r.el Wc, by rw [Tr.el, e]; rfl, h1, h2⟩
end Go.Proofs.Ytoppgdhidnpibaa
