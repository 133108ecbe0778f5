
import Derived.Test.YtmbjjaflgdfihaaR1
/- R4: what makes a document of the blank (cells.Delta), as plain data -/
namespace Go.Proofs.Ytmbjjaflgdfihaa
set_option linter.unusedVariables false
set_option maxRecDepth 100000

/-- The insert of one cell; the retain of the last one. -/
def insC (c : Cl) : Opn := ⟨2, 0, [c.r], c.s, []⟩
def lastC (s : List Att) : Opn := ⟨1, 1, [], [], diff6 [] s⟩
def insR (ls : List Cl) : List Opn := tellR (ls.map insC)
/-- Delta's answer. -/
def deltaC (ls : List Cl) : List Opn := match ls.getLast? with
  | none => []
  | some c => formO (ls.dropLast.map insC ++ [lastC c.s])
theorem insR_snoc (ls : List Cl) (c : Cl) : insR (ls ++ [c]) = rtell (insC c) (insR ls) := by unfold insR; rw [List.map_append, List.map_singleton, tellR_snoc]
theorem deltaC_snoc (ls : List Cl) (c : Cl) : deltaC (ls ++ [c]) = (settleR (rtell (lastC c.s) (insR ls))).reverse := by
  unfold deltaC formO insR
  rw [List.getLast?_concat, List.dropLast_concat]
  simp only [tellR_snoc]
/-- All that was told are inserts. -/
def AllIns (R : List Opn) : Prop := ∀ o ∈ R, o.k = 2 ∧ o.pt = []
/-- The cells that inserts make; the patches of retains. -/
def backO (o : Opn) : List Cl := if o.k = 2 then o.rs.map (⟨·, o.st⟩) else []
def backR (R : List Opn) : List Cl := R.reverse.flatMap backO
def ptsR (R : List Opn) : List Chg := R.flatMap fun o => if o.k = 1 then o.pt else []
theorem backR_cons (o : Opn) (R : List Opn) : backR (o :: R) = backR R ++ backO o := by unfold backR; rw [List.reverse_cons, List.flatMap_append]; simp
theorem len_ins (c : Cl) : 1 ≤ lenN (insC c) := by simp [lenN, insC]
theorem len_last (s : List Att) : 1 ≤ lenN (lastC s) := by simp [lenN, lastC]
theorem tell_ins {R : List Opn} (h : AllIns R) (c : Cl) : AllIns (rtell (insC c) R) ∧ backR (rtell (insC c) R) = backR R ++ [c] := by
  have hb : backO (insC c) = [c] := by simp [backO, insC]
  cases R with
  | nil =>
    rw [rtell_nil (len_ins c)]
    exact ⟨fun o ho => by obtain rfl := List.mem_singleton.1 ho; exact ⟨rfl, rfl⟩, by rw [backR_cons, hb]⟩
  | cons d r =>
    obtain ⟨hd, hp⟩ := h d (by simp)
    rw [rtell_else r (len_ins c) (by rintro ⟨-, h3⟩; rw [hd] at h3; exact absurd h3 (by decide))]
    by_cases ha : Alike d (insC c)
    · rw [rpush_yes r ha]
      have e : long d (insC c) = { d with rs := d.rs ++ [c.r] } := by unfold long; rw [if_pos hd]; rfl
      rw [e]
      refine ⟨fun o ho => ?_, ?_⟩
      · rcases List.mem_cons.1 ho with rfl | ho
        · exact ⟨hd, hp⟩
        · exact h o (List.mem_cons_of_mem _ ho)
      · rw [backR_cons, backR_cons, List.append_assoc]
        congr 1
        have hs : d.st = c.s := ha.2.1
        simp [backO, hd, hs]
    · rw [rpush_no r ha]
      refine ⟨fun o ho => ?_, by rw [backR_cons, hb]⟩
      rcases List.mem_cons.1 ho with rfl | ho
      · exact ⟨rfl, rfl⟩
      · exact h o ho
theorem insR_back (ls : List Cl) : AllIns (insR ls) ∧ backR (insR ls) = ls := by
  induction ls using snoc_ind with
  | nil => exact ⟨fun o ho => (by cases ho), rfl⟩
  | append_singleton xs x ih =>
    rw [insR_snoc]
    obtain ⟨h1, h2⟩ := tell_ins ih.1 x
    exact ⟨h1, by rw [h2, ih.2]⟩
theorem tell_last {R : List Opn} (h : AllIns R) (s : List Att) : rtell (lastC s) R = lastC s :: R := by
  cases R with
  | nil => exact rtell_nil (len_last s)
  | cons d r =>
    have hd := (h d (by simp)).1
    rw [rtell_else r (len_last s) (by rintro ⟨h2, -⟩; exact absurd (show (1 : Int) = 2 from h2) (by decide)), rpush_no]
    rintro ⟨ha, -⟩
    rw [hd] at ha
    exact absurd (show (2 : Int) = 1 from ha) (by decide)
theorem pts_ins {R : List Opn} (h : AllIns R) : ptsR R = [] := by
  unfold ptsR
  rw [List.flatMap_eq_nil_iff]
  intro o ho
  rw [if_neg (by rw [(h o ho).1]; decide)]
theorem settle_last {R : List Opn} (h : AllIns R) (s : List Att) : backR (settleR (lastC s :: R)) = backR R ∧ ptsR (settleR (lastC s :: R)) = diff6 [] s := by
  by_cases hi : Idle (lastC s)
  · rw [settleR_yes R hi]
    exact ⟨rfl, by rw [pts_ins h]; exact hi.2.symm⟩
  · rw [settleR_no R hi]
    refine ⟨by rw [backR_cons]; simp [backO, lastC], ?_⟩
    show ptsR (lastC s :: R) = _
    unfold ptsR
    rw [List.flatMap_cons]
    have := pts_ins h
    unfold ptsR at this
    rw [this]
    simp [lastC]
theorem diff_nil (s : List Att) : diff6 [] s = chs s := by
  unfold diff6 dif
  have : ∀ l : List Chg, (sbs [] l).flatMap putD = l := fun l => by
    show (l.map fun y => (none, some y)).flatMap putD = l
    induction l with
    | nil => rfl
    | cons x l ih => rw [List.map_cons, List.flatMap_cons, ih]; rfl
  exact this _
theorem toC_inj {a b : Att} (h : toC a = toC b) : a = b := by
  cases a
  cases b
  simpa [toC] using h
theorem chs_inj : ∀ {a b : List Att}, chs a = chs b → a = b
  | [], [], _ => rfl
  | [], _ :: _, h => by simp [chs] at h
  | _ :: _, [], h => by simp [chs] at h
  | x :: a, y :: b, h => by
    simp only [chs, List.map_cons, List.cons.injEq] at h
    rw [toC_inj h.1, chs_inj (a := a) (b := b) h.2]
/-- Two rows whose last cell has one rune have one delta just if they are one. -/
theorem delta_inj {a b : List Cl} {x y : Cl} (hr : x.r = y.r) : deltaC (a ++ [x]) = deltaC (b ++ [y]) ↔ a ++ [x] = b ++ [y] := by
  refine ⟨fun h => ?_, fun h => by rw [h]⟩
  rw [deltaC_snoc, deltaC_snoc] at h
  have h := List.reverse_inj.1 h
  obtain ⟨ha, ha2⟩ := insR_back a
  obtain ⟨hb, hb2⟩ := insR_back b
  rw [tell_last ha, tell_last hb] at h
  have e1 := settle_last ha x.s
  have e2 := settle_last hb y.s
  rw [h] at e1
  have q1 : a = b := by rw [← ha2, ← hb2, ← e1.1, ← e2.1]
  have q2 : x.s = y.s := chs_inj (by rw [← diff_nil, ← diff_nil, ← e1.2, ← e2.2])
  have q3 : x = y := by cases x; cases y; simp only at hr q2; rw [hr, q2]
  rw [q1, q3]
end Go.Proofs.Ytmbjjaflgdfihaa
