
import Derived.Test.YtkejebjppnhidaaC9
import Derived.Test.YtkejebjppnhidaaC10
/- C16: rows of rising keys are told by what they have of each key -/
namespace Go.Proofs.Ytkejebjppnhidaa
open Go.RowKit
set_option linter.unusedVariables false

theorem ext_gen {α : Type} (key : α → Int) : ∀ xs ys : List α, xs.Pairwise (fun a b => key a < key b) → ys.Pairwise (fun a b => key a < key b) → (∀ k, xs.find? (fun c => key c == k) = ys.find? (fun c => key c == k)) → xs = ys
  | [], [], _, _, _ => rfl
  | [], y :: s, _, _, h => by have := h (key y); simp at this
  | x :: r, [], _, _, h => by have := h (key x); simp at this
  | x :: r, y :: s, h1, h2, h => by
    obtain ⟨a1, a2⟩ := List.pairwise_cons.1 h1
    obtain ⟨b1, b2⟩ := List.pairwise_cons.1 h2
    have no : ∀ (l : List α) (k : Int), (∀ a ∈ l, k < key a) → l.find? (fun c => key c == k) = none := fun l k hl => by
      rw [List.find?_eq_none]
      intro a ha
      have := hl a ha
      simp
      omega
    have hx := h (key x)
    have hy := h (key y)
    simp only [List.find?_cons, beq_self_eq_true] at hx hy
    have hk : key x = key y := by
      by_cases q : key x = key y
      · exact q
      exfalso
      rcases Int.lt_or_gt_of_ne q with q | q
      · rw [show (key y == key x) = false by simp; omega, no s (key x) (fun a ha => by have := b1 a ha; omega)] at hx
        cases hx
      · rw [show (key x == key y) = false by simp; omega, no r (key y) (fun a ha => by have := a1 a ha; omega)] at hy
        cases hy
    rw [show (key y == key x) = true by simp [hk]] at hx
    injection hx with hx
    subst hx
    refine congrArg _ (ext_gen key r s a2 b2 fun k => ?_)
    have hk := h k
    simp only [List.find?_cons] at hk
    by_cases q : key x = k
    · subst q
      rw [no r _ a1, no s _ b1]
    · rw [show (key x == k) = false by simpa using q] at hk
      exact hk
theorem extC {xs ys : List Chg} (h1 : RiseC xs) (h2 : RiseC ys) (h : ∀ k, getC xs k = getC ys k) : xs = ys := ext_gen Chg.key xs ys h1 h2 h
theorem extA {xs ys : List Att} (h1 : Rise xs) (h2 : Rise ys) (h : ∀ k, getA xs k = getA ys k) : xs = ys := ext_gen Att.key xs ys h1 h2 h

theorem getC_nil (k : Int) : getC [] k = none := rfl
theorem getC_cons (x : Chg) (r : List Chg) (k : Int) : getC (x :: r) k = if x.key = k then some x else getC r k := by
  unfold getC
  rw [List.find?_cons]
  by_cases h : x.key = k
  · simp [h]
  · rw [if_neg h, show (x.key == k) = false by simpa using h]
theorem getC_no {l : List Chg} {k : Int} (h : ∀ c ∈ l, c.key ≠ k) : getC l k = none := by
  unfold getC
  rw [List.find?_eq_none]
  intro c hc
  simpa using h c hc
theorem getC_key {l : List Chg} {k : Int} {c : Chg} (h : getC l k = some c) : c ∈ l ∧ c.key = k := by
  unfold getC at h
  exact ⟨List.mem_of_find?_eq_some h, by simpa using List.find?_some h⟩
theorem getC_in : ∀ {l : List Chg} {c : Chg}, RiseC l → c ∈ l → getC l c.key = some c
  | x :: r, c, hr, hc => by
    obtain ⟨h1, h2⟩ := List.pairwise_cons.1 hr
    rw [getC_cons]
    rcases List.mem_cons.1 hc with rfl | hc
    · simp
    · rw [if_neg (by have := h1 c hc; omega)]
      exact getC_in h2 hc
theorem getC_app (l r : List Chg) (k : Int) : getC (l ++ r) k = (getC l k).or (getC r k) := by unfold getC; rw [List.find?_append]

/-- What the closures put is of the key that they are told. -/
structure Puts (f : Option Chg × Option Chg → List Chg) : Prop where
  none : f (none, none) = []
  one : ∀ p, (f p).length ≤ 1
  key : ∀ a b k, (∀ x, a = some x → x.key = k) → (∀ y, b = some y → y.key = k) → ∀ c ∈ f (a, b), c.key = k
theorem puts_C : Puts putC := by
  refine ⟨rfl, putC_one, fun a b k ha hb c hc => ?_⟩
  rcases a with _ | x <;> rcases b with _ | y <;> simp [putC] at hc <;> subst hc
  · exact hb _ rfl
  · exact ha _ rfl
  · exact hb _ rfl
theorem puts_L : Puts putL := by
  refine ⟨rfl, putL_one, fun a b k ha hb c hc => ?_⟩
  rcases a with _ | x <;> rcases b with _ | y <;> simp [putL] at hc
  subst hc
  exact ha _ rfl
theorem puts_D : Puts putD := by
  refine ⟨rfl, putD_one, fun a b k ha hb c hc => ?_⟩
  rcases a with _ | x <;> rcases b with _ | y <;> simp [putD] at hc
  · subst hc; exact hb _ rfl
  · subst hc; exact ha x rfl
  · rw [hc.2]; exact hb _ rfl

/-- One key's changes ahead of those of greater keys. -/
theorem block_get {B rest : List Chg} {k0 : Int} (hB : B.length ≤ 1) (hk : ∀ c ∈ B, c.key = k0) (hr : RiseC rest) (hg : ∀ c ∈ rest, k0 < c.key) :
    RiseC (B ++ rest) ∧ ∀ k, getC (B ++ rest) k = if k = k0 then B.head? else getC rest k := by
  match B, hB with
  | [], _ =>
    refine ⟨hr, fun k => ?_⟩
    by_cases h : k = k0
    · subst h
      rw [if_pos rfl]
      exact getC_no fun c hc => by have := hg c hc; omega
    · rw [if_neg h]; rfl
  | [x], _ =>
    have hx := hk x (by simp)
    refine ⟨List.pairwise_cons.2 ⟨fun c hc => by have := hg c hc; omega, hr⟩, fun k => ?_⟩
    show getC (x :: rest) k = _
    rw [getC_cons, hx]
    by_cases h : k = k0
    · subst h; simp
    · rw [if_neg (fun e => h e.symm), if_neg h]
theorem rise_gt {x : Chg} {l : List Chg} (h : RiseC (x :: l)) : RiseC l ∧ ∀ c ∈ l, x.key < c.key := by
  obtain ⟨h1, h2⟩ := List.pairwise_cons.1 h
  exact ⟨h2, h1⟩
/-- What is told of two rising rows, put together: of each key just what is put of what both have of it. -/
theorem sbs_get {f : Option Chg × Option Chg → List Chg} (hf : Puts f) : ∀ (n : Nat) (l r : List Chg), l.length + r.length ≤ n → RiseC l → RiseC r →
    RiseC ((sbs l r).flatMap f) ∧ ∀ k, getC ((sbs l r).flatMap f) k = (f (getC l k, getC r k)).head? := by
  intro n
  induction n with
  | zero =>
    intro l r h _ _
    obtain rfl : l = [] := List.eq_nil_of_length_eq_zero (by omega)
    obtain rfl : r = [] := List.eq_nil_of_length_eq_zero (by omega)
    rw [sbs_nn]
    exact ⟨List.Pairwise.nil, fun k => by rw [getC_nil, hf.none]; rfl⟩
  | succ n ih =>
    have gt_of : ∀ {l r : List Chg} {k0 : Int}, RiseC ((sbs l r).flatMap f) → (∀ k, getC ((sbs l r).flatMap f) k = (f (getC l k, getC r k)).head?) → (∀ c ∈ l, k0 < c.key) → (∀ c ∈ r, k0 < c.key) → ∀ c ∈ (sbs l r).flatMap f, k0 < c.key := by
      intro l r k0 hr hg h1 h2 c hc
      have h := hg c.key
      rw [getC_in hr hc] at h
      cases ha : getC l c.key with
      | some x => have := h1 x (getC_key ha).1; rw [(getC_key ha).2] at this; exact this
      | none =>
        cases hb : getC r c.key with
        | some y => have := h2 y (getC_key hb).1; rw [(getC_key hb).2] at this; exact this
        | none => rw [ha, hb, hf.none] at h; cases h
    intro l r hn hl hr
    match l, r with
    | [], [] =>
      rw [sbs_nn]
      exact ⟨List.Pairwise.nil, fun k => by rw [getC_nil, hf.none]; rfl⟩
    | x :: l, [] =>
      obtain ⟨hl2, hx⟩ := rise_gt hl
      obtain ⟨i1, i2⟩ := ih l [] (by simp at hn ⊢; omega) hl2 hr
      rw [sbs_cn, List.flatMap_cons]
      obtain ⟨b1, b2⟩ := block_get (hf.one _) (hf.key (some x) none x.key (fun z hz => by injection hz with hz; rw [hz]) (fun z hz => by cases hz)) i1 (gt_of i1 i2 hx (by simp))
      refine ⟨b1, fun k => ?_⟩
      rw [b2, getC_cons, i2]
      by_cases h : k = x.key
      · subst h; simp [getC_nil]
      · rw [if_neg h, if_neg (fun e => h e.symm)]
    | [], y :: r =>
      obtain ⟨hr2, hy⟩ := rise_gt hr
      obtain ⟨i1, i2⟩ := ih [] r (by simp at hn ⊢; omega) hl hr2
      rw [sbs_nc, List.flatMap_cons]
      obtain ⟨b1, b2⟩ := block_get (hf.one _) (hf.key none (some y) y.key (fun z hz => by cases hz) (fun z hz => by injection hz with hz; rw [hz])) i1 (gt_of i1 i2 (by simp) hy)
      refine ⟨b1, fun k => ?_⟩
      rw [b2, getC_cons, i2]
      by_cases h : k = y.key
      · subst h; simp [getC_nil]
      · rw [if_neg h, if_neg (fun e => h e.symm)]
    | x :: l, y :: r =>
      obtain ⟨hl2, hx⟩ := rise_gt hl
      obtain ⟨hr2, hy⟩ := rise_gt hr
      by_cases q1 : x.key < y.key
      · have hyx : ∀ c ∈ y :: r, x.key < c.key := fun c hc => by
          rcases List.mem_cons.1 hc with rfl | hc
          · exact q1
          · have := hy c hc; omega
        obtain ⟨i1, i2⟩ := ih l (y :: r) (by simp at hn ⊢; omega) hl2 hr
        rw [sbs_lt q1, List.flatMap_cons]
        obtain ⟨b1, b2⟩ := block_get (hf.one _) (hf.key (some x) none x.key (fun z hz => by injection hz with hz; rw [hz]) (fun z hz => by cases hz)) i1 (gt_of i1 i2 hx hyx)
        refine ⟨b1, fun k => ?_⟩
        rw [b2, getC_cons x l, i2]
        by_cases h : k = x.key
        · subst h
          rw [if_pos rfl, if_pos rfl, getC_no (fun c hc => by have := hyx c hc; omega)]
        · rw [if_neg h, if_neg (fun e => h e.symm)]
      · by_cases q2 : y.key < x.key
        · have hxy : ∀ c ∈ x :: l, y.key < c.key := fun c hc => by
            rcases List.mem_cons.1 hc with rfl | hc
            · exact q2
            · have := hx c hc; omega
          obtain ⟨i1, i2⟩ := ih (x :: l) r (by simp at hn ⊢; omega) hl hr2
          rw [sbs_gt q2, List.flatMap_cons]
          obtain ⟨b1, b2⟩ := block_get (hf.one _) (hf.key none (some y) y.key (fun z hz => by cases hz) (fun z hz => by injection hz with hz; rw [hz])) i1 (gt_of i1 i2 hxy hy)
          refine ⟨b1, fun k => ?_⟩
          rw [b2, getC_cons y r, i2]
          by_cases h : k = y.key
          · subst h
            rw [if_pos rfl, if_pos rfl, getC_no (fun c hc => by have := hxy c hc; omega)]
          · rw [if_neg h, if_neg (fun e => h e.symm)]
        · have q3 : y.key = x.key := by omega
          obtain ⟨i1, i2⟩ := ih l r (by simp at hn ⊢; omega) hl2 hr2
          rw [sbs_eq q1 q2, List.flatMap_cons]
          obtain ⟨b1, b2⟩ := block_get (hf.one _) (hf.key (some x) (some y) x.key (fun z hz => by injection hz with hz; rw [hz]) (fun z hz => by injection hz with hz; rw [← hz, q3])) i1 (gt_of i1 i2 hx (fun c hc => by have := hy c hc; omega))
          refine ⟨b1, fun k => ?_⟩
          rw [b2, getC_cons x l, getC_cons y r, i2, q3]
          by_cases h : k = x.key
          · subst h; simp
          · rw [if_neg h, if_neg (fun e => h e.symm), if_neg (fun e => h e.symm)]

theorem comp_rise {p q : List Chg} (hp : RiseC p) (hq : RiseC q) : RiseC (comp p q) := (sbs_get puts_C _ p q (Nat.le_refl _) hp hq).1
theorem comp_get {p q : List Chg} (hp : RiseC p) (hq : RiseC q) (k : Int) : getC (comp p q) k = (getC q k).or (getC p k) := by
  have := (sbs_get puts_C _ p q (Nat.le_refl _) hp hq).2 k
  unfold comp
  rw [this]
  cases getC p k <;> cases getC q k <;> rfl
theorem less_rise {p q : List Chg} (hp : RiseC p) (hq : RiseC q) : RiseC (less p q) := (sbs_get puts_L _ p q (Nat.le_refl _) hp hq).1
theorem less_get {p q : List Chg} (hp : RiseC p) (hq : RiseC q) (k : Int) : getC (less p q) k = if (getC q k).isSome then none else getC p k := by
  have := (sbs_get puts_L _ p q (Nat.le_refl _) hp hq).2 k
  unfold less
  rw [this]
  cases getC p k <;> cases getC q k <;> rfl
theorem chs_rise {a : List Att} (h : Rise a) : RiseC (chs a) := by
  unfold chs RiseC
  rw [List.pairwise_map]
  exact h
theorem chs_get (a : List Att) (k : Int) : getC (chs a) k = (getA a k).map toC := by
  unfold getC getA chs
  rw [List.find?_map]
  rfl
theorem diff_rise {a b : List Att} (ha : Rise a) (hb : Rise b) : RiseC (diff6 a b) := (sbs_get puts_D _ _ _ (Nat.le_refl _) (chs_rise ha) (chs_rise hb)).1
theorem toC_inj {x y : Att} : toC x = toC y ↔ x = y := by
  obtain ⟨a1, a2, a3, a4, a5⟩ := x
  obtain ⟨b1, b2, b3, b4, b5⟩ := y
  simp [toC]
/-- What differs of a key. -/
def dk : Option Att → Option Att → Option Chg
  | some x, none => some (goneC x.key)
  | none, some y => some (toC y)
  | some x, some y => if x = y then none else some (toC y)
  | none, none => none
theorem diff_get {a b : List Att} (ha : Rise a) (hb : Rise b) (k : Int) : getC (diff6 a b) k = dk (getA a k) (getA b k) := by
  have := (sbs_get puts_D _ _ _ (Nat.le_refl _) (chs_rise ha) (chs_rise hb)).2 k
  unfold diff6 dif
  rw [this, chs_get, chs_get]
  cases getA a k with
  | none => cases getA b k <;> rfl
  | some x =>
    cases getA b k with
    | none => rfl
    | some y =>
      simp only [Option.map_some, putD, dk]
      by_cases h : x = y
      · subst h; simp
      · rw [if_neg h, if_neg (fun e => h (toC_inj.1 e))]; rfl
/-- What a change makes of a key. -/
def ck : Option Chg → Option Att → Option Att
  | some c, _ => if c.g then none else some (toA c)
  | none, x => x
theorem ats_get {p : List Chg} (hp : RiseC p) (k : Int) : getA (ats p) k = ck (getC p k) none := by
  induction p with
  | nil => rfl
  | cons x r ih =>
    obtain ⟨hr, hx⟩ := rise_gt hp
    have e : ats (x :: r) = if x.g then ats r else toA x :: ats r := by unfold ats; cases h : x.g <;> simp [h]
    have hn : x.key = k → getC r k = none := fun h => getC_no fun c hc => by have := hx c hc; omega
    rw [e, getC_cons]
    cases h : x.g
    · simp only [Bool.false_eq_true, if_false]
      unfold getA
      rw [List.find?_cons]
      by_cases hk : x.key = k
      · simp [hk, ck, h]
      · rw [if_neg hk, ← ih hr, show ((toA x).key == k) = false by simpa using hk]
        rfl
    · simp only [if_true]
      rw [ih hr]
      by_cases hk : x.key = k
      · rw [if_pos hk, hn hk]; simp [ck, h]
      · rw [if_neg hk]
theorem app_rise {a : List Att} {p : List Chg} (ha : Rise a) (hp : RiseC p) : Rise (app a p) := ats_rise (comp_rise (chs_rise ha) hp)
theorem app_get {a : List Att} {p : List Chg} (ha : Rise a) (hp : RiseC p) (k : Int) : getA (app a p) k = ck (getC p k) (getA a k) := by
  unfold app
  rw [ats_get (comp_rise (chs_rise ha) hp), comp_get (chs_rise ha) hp, chs_get]
  cases getC p k with
  | some c => rfl
  | none =>
    cases getA a k with
    | none => rfl
    | some x => rfl
theorem inv_rise {a : List Att} {p : List Chg} (ha : Rise a) (hp : RiseC p) : RiseC (inv a p) := diff_rise (app_rise ha hp) ha
theorem getA_key {l : List Att} {k : Int} {c : Att} (h : getA l k = some c) : c ∈ l ∧ c.key = k := by
  unfold getA at h
  exact ⟨List.mem_of_find?_eq_some h, by simpa using List.find?_some h⟩

/-! What follows -/
theorem app_app {a : List Att} {p q : List Chg} (ha : Rise a) (hp : RiseC p) (hq : RiseC q) : app (app a p) q = app a (comp p q) := by
  refine extA (app_rise (app_rise ha hp) hq) (app_rise ha (comp_rise hp hq)) fun k => ?_
  rw [app_get (app_rise ha hp) hq, app_get ha hp, app_get ha (comp_rise hp hq), comp_get hp hq]
  cases getC q k <;> rfl
theorem app_nil {a : List Att} (ha : Rise a) : app a [] = a := by
  refine extA (app_rise ha List.Pairwise.nil) ha fun k => ?_
  rw [app_get ha List.Pairwise.nil]; rfl
theorem comp_comp {p q r : List Chg} (hp : RiseC p) (hq : RiseC q) (hr : RiseC r) : comp (comp p q) r = comp p (comp q r) := by
  refine extC (comp_rise (comp_rise hp hq) hr) (comp_rise hp (comp_rise hq hr)) fun k => ?_
  rw [comp_get (comp_rise hp hq) hr, comp_get hp hq, comp_get hp (comp_rise hq hr), comp_get hq hr]
  cases getC r k <;> rfl
theorem comp_nil {p : List Chg} (hp : RiseC p) : comp p [] = p := by
  refine extC (comp_rise hp List.Pairwise.nil) hp fun k => ?_
  rw [comp_get hp List.Pairwise.nil]; rfl
theorem nil_comp {p : List Chg} (hp : RiseC p) : comp [] p = p := by
  refine extC (comp_rise List.Pairwise.nil hp) hp fun k => ?_
  rw [comp_get List.Pairwise.nil hp, getC_nil]; cases getC p k <;> rfl
theorem app_diff {a b : List Att} (ha : Rise a) (hb : Rise b) : app a (diff6 a b) = b := by
  refine extA (app_rise ha (diff_rise ha hb)) hb fun k => ?_
  rw [app_get ha (diff_rise ha hb), diff_get ha hb]
  cases getA a k with
  | none => cases getA b k <;> rfl
  | some x =>
    cases getA b k with
    | none => rfl
    | some y =>
      by_cases h : x = y
      · subst h; simp [dk, ck]
      · simp [dk, ck, h]
theorem app_inv {a : List Att} {p : List Chg} (ha : Rise a) (hp : RiseC p) : app (app a p) (inv a p) = a := app_diff (app_rise ha hp) ha
theorem inv_diff {a b : List Att} (ha : Rise a) (hb : Rise b) : inv a (diff6 a b) = diff6 b a := by unfold inv; rw [app_diff ha hb]
theorem diff_self {a : List Att} (ha : Rise a) : diff6 a a = [] := by
  refine extC (diff_rise ha ha) List.Pairwise.nil fun k => ?_
  rw [diff_get ha ha, getC_nil]
  cases getA a k with
  | none => rfl
  | some x => simp [dk]
theorem app_past {a : List Att} {p q : List Chg} (ha : Rise a) (hp : RiseC p) (hq : RiseC q) : app (app a p) (less q p) = app (app a q) p := by
  refine extA (app_rise (app_rise ha hp) (less_rise hq hp)) (app_rise (app_rise ha hq) hp) fun k => ?_
  rw [app_get (app_rise ha hp) (less_rise hq hp), app_get ha hp, less_get hq hp, app_get (app_rise ha hq) hp, app_get ha hq]
  cases getC p k with
  | none => cases getC q k <;> rfl
  | some x => simp [ck]
theorem less_not {p q : List Chg} (hp : RiseC p) (hq : RiseC q) {c : Chg} (h : c ∈ less p q) : getC q c.key = none := by
  have h1 := getC_in (less_rise hp hq) h
  rw [less_get hp hq] at h1
  cases hh : getC q c.key with
  | none => rfl
  | some x => rw [hh] at h1; cases h1
end Go.Proofs.Ytkejebjppnhidaa
