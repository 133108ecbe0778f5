
import Derived.Test.YtmbjjaflgdfihaaN1
/- N2: normal forms as plain data (rows the other way round: the last op first) -/
namespace Go.Proofs.Ytmbjjaflgdfihaa
open Go.RowKit
set_option linter.unusedVariables false

def lenN (p : Opn) : Int := if p.k = 2 then (p.rs.length : Int) else if p.k = 1 ∨ p.k = 3 then p.n else 0
@[reducible] def Alike (o p : Opn) : Prop := o.k = p.k ∧ o.st = p.st ∧ o.pt = p.pt
def long (o p : Opn) : Opn := if o.k = 2 then { o with rs := o.rs ++ p.rs } else { o with n := o.n + min p.n (9223372036854775807 - o.n) }
def rpush (p : Opn) : List Opn → List Opn
  | [] => [p]
  | l :: r => if Alike l p then long l p :: r else p :: l :: r
def rtell (p : Opn) (R : List Opn) : List Opn := if lenN p < 1 then R else match R with
  | [] => [p]
  | d :: r => if p.k = 2 ∧ d.k = 3 then d :: rpush p r else rpush p (d :: r)
def tellR (xs : List Opn) : List Opn := xs.foldl (fun R p => rtell p R) []
@[reducible] def Idle (o : Opn) : Prop := o.k = 1 ∧ o.pt = []
def settleR : List Opn → List Opn
  | [] => []
  | o :: r => if Idle o then r else o :: r
/-- The normal form. -/
def formO (xs : List Opn) : List Opn := (settleR (tellR xs)).reverse
@[reducible] def Bad (o p : Opn) : Prop := Alike o p ∨ (o.k = 3 ∧ p.k = 2)
def NR : List Opn → Prop
  | p :: o :: r => ¬ Bad o p ∧ NR (o :: r)
  | _ => True
/-- An op that may be. -/
structure Tm (p : Opn) : Prop where
  ret : p.k = 1 → p.st = [] ∧ p.rs = [] ∧ 1 ≤ p.n
  ins : p.k = 2 → p.n = 0 ∧ p.pt = [] ∧ p.rs ≠ []
  del : p.k = 3 → p.st = [] ∧ p.pt = [] ∧ p.rs = [] ∧ 1 ≤ p.n
  kind : p.k = 1 ∨ p.k = 2 ∨ p.k = 3
  hi : p.n ≤ 9223372036854775807
theorem tellR_snoc (xs : List Opn) (p : Opn) : tellR (xs ++ [p]) = rtell p (tellR xs) := by simp [tellR]
theorem tellR_nil : tellR [] = [] := rfl
theorem rpush_nil (p : Opn) : rpush p [] = [p] := rfl
theorem rpush_yes {p l : Opn} (r : List Opn) (h : Alike l p) : rpush p (l :: r) = long l p :: r := if_pos h
theorem rpush_no {p l : Opn} (r : List Opn) (h : ¬ Alike l p) : rpush p (l :: r) = p :: l :: r := if_neg h
theorem long_k (o p : Opn) : (long o p).k = o.k ∧ (long o p).st = o.st ∧ (long o p).pt = o.pt := by unfold long; split <;> exact ⟨rfl, rfl, rfl⟩
theorem Tm.len {p : Opn} (h : Tm p) : 1 ≤ lenN p := by
  unfold lenN
  rcases h.kind with e | e | e
  · rw [if_neg (by omega), if_pos (.inl e)]; exact (h.ret e).2.2
  · rw [if_pos e]
    have := List.length_pos_iff.2 (h.ins e).2.2
    omega
  · rw [if_neg (by omega), if_pos (.inr e)]; exact (h.del e).2.2.2
theorem Tm.nn {p : Opn} (h : Tm p) : 0 ≤ p.n := by
  rcases h.kind with e | e | e
  · have := (h.ret e).2.2; omega
  · have := (h.ins e).1; omega
  · have := (h.del e).2.2.2; omega
theorem rtell_zero {p : Opn} (h : lenN p < 1) (R : List Opn) : rtell p R = R := if_pos h
theorem rtell_nil {p : Opn} (h : 1 ≤ lenN p) : rtell p [] = [p] := if_neg (by omega)
theorem rtell_del {p d : Opn} (r : List Opn) (h : 1 ≤ lenN p) (h2 : p.k = 2) (h3 : d.k = 3) : rtell p (d :: r) = d :: rpush p r := by
  unfold rtell
  rw [if_neg (by omega)]
  exact if_pos ⟨h2, h3⟩
theorem rtell_else {p d : Opn} (r : List Opn) (h : 1 ≤ lenN p) (h2 : ¬ (p.k = 2 ∧ d.k = 3)) : rtell p (d :: r) = rpush p (d :: r) := by
  unfold rtell
  rw [if_neg (by omega)]
  exact if_neg h2
theorem bad_long_l {l p d : Opn} : Bad (long l p) d ↔ Bad l d := by
  obtain ⟨e1, e2, e3⟩ := long_k l p
  unfold Bad Alike
  rw [e1, e2, e3]
theorem bad_long_r {l p d : Opn} : Bad d (long l p) ↔ Bad d l := by
  obtain ⟨e1, e2, e3⟩ := long_k l p
  unfold Bad Alike
  rw [e1, e2, e3]
theorem NR.tail {o : Opn} {r : List Opn} (h : NR (o :: r)) : NR r := by
  cases r with
  | nil => trivial
  | cons d r => exact h.2
theorem nr_long {l p : Opn} {r : List Opn} (h : NR (l :: r)) : NR (long l p :: r) := by
  cases r with
  | nil => trivial
  | cons d r => exact ⟨fun hb => h.1 (bad_long_r.1 hb), h.2⟩
theorem nr_rpush {p : Opn} {r : List Opn} (h : NR r) (hd : ∀ d r', r = d :: r' → ¬ (d.k = 3 ∧ p.k = 2)) : NR (rpush p r) := by
  cases r with
  | nil => trivial
  | cons l r =>
    by_cases ha : Alike l p
    · rw [rpush_yes r ha]; exact nr_long h
    · rw [rpush_no r ha]; exact ⟨fun hb => hb.elim ha (hd l r rfl), h⟩
theorem two_del {l d : Opn} (hl : Tm l) (hd : Tm d) (h1 : l.k = 3) (h2 : d.k = 3) : Alike l d := by
  obtain ⟨a, b, -⟩ := hl.del h1
  obtain ⟨a', b', -⟩ := hd.del h2
  exact ⟨by omega, by rw [a, a'], by rw [b, b']⟩
theorem nr_rtell {p : Opn} {R : List Opn} (h : NR R) (hp : Tm p) (hR : ∀ o ∈ R, Tm o) : NR (rtell p R) := by
  cases R with
  | nil => rw [rtell_nil hp.len]; trivial
  | cons d r =>
    by_cases hc : p.k = 2 ∧ d.k = 3
    · rw [rtell_del r hp.len hc.1 hc.2]
      obtain ⟨p2, d3⟩ := hc
      have hn : ¬ Bad p d := fun hb => by
        rcases hb with ⟨e, -⟩ | ⟨e, -⟩ <;> omega
      cases r with
      | nil => exact ⟨hn, trivial⟩
      | cons l r =>
        have hl3 : l.k ≠ 3 := fun e => h.1 (.inl (two_del (hR l (by simp)) (hR d (by simp)) e d3))
        have hnr := nr_rpush (p := p) h.2 (fun d' r' e => by injection e with e _; subst e; omega)
        by_cases ha : Alike l p
        · rw [rpush_yes r ha] at hnr ⊢; exact ⟨fun hb => h.1 (bad_long_l.1 hb), hnr⟩
        · rw [rpush_no r ha] at hnr ⊢; exact ⟨hn, hnr⟩
    · rw [rtell_else r hp.len hc]
      exact nr_rpush h (fun d' r' e => by injection e with e _; subst e; omega)
theorem tm_long {l p : Opn} (hl : Tm l) (hp : Tm p) (ha : Alike l p) : Tm (long l p) := by
  obtain ⟨e1, e2, e3⟩ := long_k l p
  have hn : l.k ≠ 2 → (long l p).rs = l.rs ∧ (long l p).n = l.n + min p.n (9223372036854775807 - l.n) := fun h => by unfold long; rw [if_neg h]; exact ⟨rfl, rfl⟩
  have hn2 : l.k = 2 → (long l p).rs = l.rs ++ p.rs ∧ (long l p).n = l.n := fun h => by unfold long; rw [if_pos h]; exact ⟨rfl, rfl⟩
  have hh := hl.hi
  refine ⟨fun h => ?_, fun h => ?_, fun h => ?_, by rw [e1]; exact hl.kind, ?_⟩
  · rw [e1] at h
    obtain ⟨a, b, c⟩ := hl.ret h
    obtain ⟨a', b', c'⟩ := hp.ret (by rw [← ha.1]; exact h)
    obtain ⟨r1, r2⟩ := hn (by omega)
    exact ⟨by rw [e2]; exact a, by rw [r1]; exact b, by rw [r2]; omega⟩
  · rw [e1] at h
    obtain ⟨a, b, c⟩ := hl.ins h
    obtain ⟨r1, r2⟩ := hn2 h
    exact ⟨by rw [r2]; exact a, by rw [e3]; exact b, by rw [r1]; exact fun hh => c (List.append_eq_nil_iff.1 hh).1⟩
  · rw [e1] at h
    obtain ⟨a, b, c, d⟩ := hl.del h
    obtain ⟨-, -, -, d'⟩ := hp.del (by rw [← ha.1]; exact h)
    obtain ⟨r1, r2⟩ := hn (by omega)
    exact ⟨by rw [e2]; exact a, by rw [e3]; exact b, by rw [r1]; exact c, by rw [r2]; omega⟩
  · by_cases h2 : l.k = 2
    · rw [(hn2 h2).2]; exact hh
    · rw [(hn h2).2]; omega
theorem tm_rpush {p : Opn} {r : List Opn} (hp : Tm p) (hr : ∀ o ∈ r, Tm o) : ∀ o ∈ rpush p r, Tm o := by
  cases r with
  | nil => intro o ho; obtain rfl := List.mem_singleton.1 ho; exact hp
  | cons l r =>
    by_cases ha : Alike l p
    · rw [rpush_yes r ha]
      intro o ho
      rcases List.mem_cons.1 ho with rfl | ho
      · exact tm_long (hr l (by simp)) hp ha
      · exact hr o (by simp [ho])
    · rw [rpush_no r ha]
      intro o ho
      rcases List.mem_cons.1 ho with rfl | ho
      · exact hp
      · exact hr o ho
theorem tm_rtell {p : Opn} {R : List Opn} (hp : Tm p) (hR : ∀ o ∈ R, Tm o) : ∀ o ∈ rtell p R, Tm o := by
  cases R with
  | nil => rw [rtell_nil hp.len]; intro o ho; obtain rfl := List.mem_singleton.1 ho; exact hp
  | cons d r =>
    by_cases hc : p.k = 2 ∧ d.k = 3
    · rw [rtell_del r hp.len hc.1 hc.2]
      intro o ho
      rcases List.mem_cons.1 ho with rfl | ho
      · exact hR o (by simp)
      · exact tm_rpush hp (fun o h => hR o (by simp [h])) o ho
    · rw [rtell_else r hp.len hc]; exact tm_rpush hp hR
/-- Whatever holds at first, and behind each op told, holds of all told. -/
theorem tell_ind {P : List Opn → Prop} (h0 : P []) (xs : List Opn) (hx : ∀ p ∈ xs, ∀ R, P R → P (rtell p R)) : P (tellR xs) := by
  unfold tellR
  have : ∀ (l : List Opn) (R : List Opn), (∀ p ∈ l, ∀ R, P R → P (rtell p R)) → P R → P (l.foldl (fun R p => rtell p R) R) := fun l => by
    induction l with
    | nil => intro R _ h; exact h
    | cons x r ih => intro R hl h; exact ih _ (fun p hp => hl p (by simp [hp])) (hl x (by simp) R h)
  exact this xs [] hx h0
theorem tell_tm {xs : List Opn} (h : ∀ p ∈ xs, Tm p) : ∀ o ∈ tellR xs, Tm o := tell_ind (P := fun R => ∀ o ∈ R, Tm o) (by simp) xs fun p hp R hR => tm_rtell (h p hp) hR
theorem tell_nr {xs : List Opn} (h : ∀ p ∈ xs, Tm p) : NR (tellR xs) :=
  (tell_ind (P := fun R => NR R ∧ ∀ o ∈ R, Tm o) ⟨trivial, by simp⟩ xs fun p hp R hR => ⟨nr_rtell hR.1 (h p hp) hR.2, tm_rtell (h p hp) hR.2⟩).1
/-- Not idle at the end. -/
def Ends : List Opn → Prop
  | [] => True
  | o :: _ => ¬ Idle o
theorem settleR_yes {o : Opn} (r : List Opn) (h : Idle o) : settleR (o :: r) = r := if_pos h
theorem settleR_no {o : Opn} (r : List Opn) (h : ¬ Idle o) : settleR (o :: r) = o :: r := if_neg h
theorem settle_nr {R : List Opn} (h : NR R) : NR (settleR R) := by
  cases R with
  | nil => trivial
  | cons o r =>
    by_cases hi : Idle o
    · rw [settleR_yes r hi]; exact h.tail
    · rw [settleR_no r hi]; exact h
theorem settle_ends {R : List Opn} (h : NR R) (ht : ∀ o ∈ R, Tm o) : Ends (settleR R) := by
  cases R with
  | nil => trivial
  | cons o r =>
    by_cases hi : Idle o
    · rw [settleR_yes r hi]
      cases r with
      | nil => trivial
      | cons d r =>
        intro hd
        obtain ⟨a, b⟩ := hi
        obtain ⟨a', b'⟩ := hd
        exact h.1 (.inl ⟨by omega, by rw [((ht d (by simp)).ret a').1, ((ht o (by simp)).ret a).1], by rw [b, b']⟩)
    · rw [settleR_no r hi]; exact hi
theorem settle_id {R : List Opn} (h : Ends R) : settleR R = R := by
  cases R with
  | nil => rfl
  | cons o r => exact if_neg h
theorem settle_sub (R : List Opn) : ∀ o ∈ settleR R, o ∈ R := by
  cases R with
  | nil => intro o ho; exact ho
  | cons d r =>
    by_cases hi : Idle d
    · rw [settleR_yes r hi]; intro o ho; exact List.mem_cons_of_mem _ ho
    · rw [settleR_no r hi]; intro o ho; exact ho
/-- Of what is normal. -/
theorem tell_id : ∀ (R : List Opn), NR R → (∀ o ∈ R, Tm o) → tellR R.reverse = R
  | [], _, _ => rfl
  | p :: r, h, ht => by
    rw [List.reverse_cons, tellR_snoc, tell_id r h.tail (fun o ho => ht o (by simp [ho]))]
    have hp := (ht p (by simp)).len
    cases r with
    | nil => exact rtell_nil hp
    | cons o r =>
      rw [rtell_else r hp (fun hc => h.1 (.inr ⟨hc.2, hc.1⟩)), rpush_no r (fun ha => h.1 (.inl ha))]
/-- A row of ops is normal. -/
def normal (xs : List Opn) : Prop := NR xs.reverse ∧ Ends xs.reverse
theorem form_normal {xs : List Opn} (h : ∀ p ∈ xs, Tm p) : normal (formO xs) := by
  unfold normal formO
  rw [List.reverse_reverse]
  exact ⟨settle_nr (tell_nr h), settle_ends (tell_nr h) (tell_tm h)⟩
theorem form_tm {xs : List Opn} (h : ∀ p ∈ xs, Tm p) : ∀ o ∈ formO xs, Tm o := fun o ho => tell_tm h o (settle_sub _ o (by simpa [formO] using ho))
theorem form_id {xs : List Opn} (h : normal xs) (ht : ∀ p ∈ xs, Tm p) : formO xs = xs := by
  have := tell_id xs.reverse h.1 (fun o ho => ht o (by simpa using ho))
  rw [List.reverse_reverse] at this
  rw [formO, this, settle_id h.2, List.reverse_reverse]
theorem normal_iff {xs : List Opn} (ht : ∀ p ∈ xs, Tm p) : normal xs ↔ formO xs = xs := ⟨fun h => form_id h ht, fun h => by rw [← h]; exact form_normal ht⟩
theorem form_twice {xs : List Opn} (h : ∀ p ∈ xs, Tm p) : formO (formO xs) = formO xs := form_id (form_normal h) (form_tm h)
end Go.Proofs.Ytmbjjaflgdfihaa
