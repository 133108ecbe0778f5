
import Derived.Test.YteodfbkfpboehaaDK
/- DL: one tree behind the other; all but the last thing, all but the first one -/
namespace Go.Proofs.Yteodfbkfpboehaa
open Go.RowKit
set_option linter.unusedVariables false
set_option maxRecDepth 100000

section
variable {D : Sv → Prop} {Q : Nat} {tb : Nat} {root : Int}
/-- What link is asked for. -/
@[reducible] def LinkQ (D : Sv → Prop) (Q : Nat) (tb : Nat) (root : Int) (a b : TC) : Prop := ∀ (S : Nat → Prop) (F : List TC) (w : World), Sq D Q S tb root (a :: b :: F) w → Up S w → Q ≤ 4000000000 →
    Calls Try.prog 67 #[.pointer (some ⟨tb, 0, none⟩), .int .i64 a.id, .int .i64 b.id] w fun e w' => ∃ T : TC, e = .returned (.int .i64 T.id) ∧ (a ≠ .nil ∨ b ≠ .nil → T ≠ .nil) ∧ T.el Wc = a.el Wc ++ b.el Wc ∧ Sq D Q S tb root (T :: F) w' ∧ Off S w w'

set_option maxHeartbeats 1000000 in
theorem link_nil (b : TC) : LinkQ D Q tb root (Tr.nil : TC) b := by
  intro S F w h hup hQ
  have ba := (h.ht hQ (Tr.nil : TC) (by simp)).1
  have bb := (h.ht hQ b (by simp)).1
  have i1 : -400000 ≤ (((Tr.nil : TC).ht : Nat) : Int) - ((b.ht : Nat) : Int) := by omega
  have i2 : (((Tr.nil : TC).ht : Nat) : Int) - ((b.ht : Nat) : Int) ≤ 400000 := by omega
  have e1 : ((Tr.id (Tr.nil : TC)) == -1) = true := rfl
  clear ba bb
  have S0 := Lib.hid h
  have O0 := Lib.hid (Off.refl S w)
  have P0 := Lib.hid hup
  have HQ := Lib.hid hQ
  clear h hup hQ
  have hfh := field_ht
  go_enter Try.func67, Try.ntmps67
  go_wp2_with (first
    | (go_at_call 51; with_reducible refine (at_st (Tr.nil : TC) (by simp) S0.out).mono ?_; rintro e w1 ⟨rfl, bb⟩; have S1 := Lib.hid (S0.out.below bb); have O1 := Lib.hid (O0.out.below_r bb); have P1 := Lib.hid (P0.out.below bb); clear bb)
    | (go_at_call 51; with_reducible refine (at_st b (by simp) S1.out).mono ?_; rintro e w2 ⟨rfl, bb⟩; have S2 := Lib.hid (S1.out.below bb); have O2 := Lib.hid (O1.out.below_r bb); have P2 := Lib.hid (P1.out.below bb); clear bb))
  go_ret
  have hs : Sq D Q S tb root (b :: F) w2 := ⟨S2.out.1.unnil, by have := S2.out.2; rw [tot_cons] at this; omega⟩
  exact ⟨b, rfl, fun h => h.elim (fun h => absurd rfl h) id, by simp [Tr.el], hs, O2.out⟩

set_option maxHeartbeats 1000000 in
theorem link_nil2 (a : TC) (ha : a ≠ .nil) : LinkQ D Q tb root a (Tr.nil : TC) := by
  intro S F w h hup hQ
  have ba := (h.ht hQ a (by simp)).1
  have bb := (h.ht hQ (Tr.nil : TC) (by simp)).1
  have i1 : -400000 ≤ ((a.ht : Nat) : Int) - (((Tr.nil : TC).ht : Nat) : Int) := by omega
  have i2 : ((a.ht : Nat) : Int) - (((Tr.nil : TC).ht : Nat) : Int) ≤ 400000 := by omega
  have e1 : (Tr.id a == -1) = false := Tr.id_ne ha
  have e2 : ((Tr.id (Tr.nil : TC)) == -1) = true := rfl
  clear ba bb
  have S0 := Lib.hid h
  have O0 := Lib.hid (Off.refl S w)
  have P0 := Lib.hid hup
  have HQ := Lib.hid hQ
  clear h hup hQ
  have hfh := field_ht
  go_enter Try.func67, Try.ntmps67
  go_wp2_with (first
    | (go_at_call 51; with_reducible refine (at_st a (by simp) S0.out).mono ?_; rintro e w1 ⟨rfl, bb⟩; have S1 := Lib.hid (S0.out.below bb); have O1 := Lib.hid (O0.out.below_r bb); have P1 := Lib.hid (P0.out.below bb); clear bb)
    | (go_at_call 51; with_reducible refine (at_st (Tr.nil : TC) (by simp) S1.out).mono ?_; rintro e w2 ⟨rfl, bb⟩; have S2 := Lib.hid (S1.out.below bb); have O2 := Lib.hid (O1.out.below_r bb); have P2 := Lib.hid (P1.out.below bb); clear bb))
  go_ret
  have hs0 := S2.out.perm (List.Perm.swap _ _ _)
  have hs : Sq D Q S tb root (a :: F) w2 := ⟨hs0.1.unnil, by have := hs0.2; rw [tot_cons] at this; omega⟩
  exact ⟨a, rfl, fun _ => ha, by simp [Tr.el], hs, O2.out⟩

set_option maxHeartbeats 1000000 in
theorem link_flat (a b : TC) (ha : a ≠ .nil) (hb : b ≠ .nil) (h1 : ¬ (1 : Int) < ((a.ht : Nat) : Int) - ((b.ht : Nat) : Int)) (h2 : ¬ ((a.ht : Nat) : Int) - ((b.ht : Nat) : Int) < -1) : LinkQ D Q tb root a b := by
  intro S F w h hup hQ
  have ba := (h.ht hQ a (by simp)).1
  have bb := (h.ht hQ b (by simp)).1
  have i1 : -400000 ≤ ((a.ht : Nat) : Int) - ((b.ht : Nat) : Int) := by omega
  have i2 : ((a.ht : Nat) : Int) - ((b.ht : Nat) : Int) ≤ 400000 := by omega
  have e1 : (Tr.id a == -1) = false := Tr.id_ne ha
  have e2 : (Tr.id b == -1) = false := Tr.id_ne hb
  have d1 : decide ((1 : Int) < ((a.ht : Nat) : Int) - ((b.ht : Nat) : Int)) = false := decide_eq_false h1
  have d2 : decide (((a.ht : Nat) : Int) - ((b.ht : Nat) : Int) < -1) = false := decide_eq_false h2
  have NA := Lib.hid ha
  have NB := Lib.hid hb
  clear ba bb h1 h2 ha hb
  have S0 := Lib.hid h
  have O0 := Lib.hid (Off.refl S w)
  have P0 := Lib.hid hup
  have HQ := Lib.hid hQ
  clear h hup hQ
  have hfh := field_ht
  go_enter Try.func67, Try.ntmps67
  go_wp2_with (first
    | (go_at_call 51; with_reducible refine (at_st a (by simp) S0.out).mono ?_; rintro e w1 ⟨rfl, bb⟩; have S1 := Lib.hid (S0.out.below bb); have O1 := Lib.hid (O0.out.below_r bb); have P1 := Lib.hid (P0.out.below bb); clear bb)
    | (go_at_call 51; with_reducible refine (at_st b (by simp) S1.out).mono ?_; rintro e w2 ⟨rfl, bb⟩; have S2 := Lib.hid (S1.out.below bb); have O2 := Lib.hid (O1.out.below_r bb); have P2 := Lib.hid (P1.out.below bb); clear bb)
    | (go_at_call 78; with_reducible refine (fork_q a b S2.out P2.out NA.out NB.out HQ.out).mono ?_; rintro e w3 ⟨T, rfl, nT, eT, ss, oo⟩; have S3 := Lib.hid ss; have O3 := Lib.hid (O2.out.seq oo); have P3 := Lib.hid (P2.out.off oo); clear ss oo; have NT := Lib.hid nT; have ET := Lib.hid eT; clear nT eT))
  go_ret
  exact ⟨T, rfl, fun _ => NT.out, ET.out, S3.out, O3.out⟩

set_option maxHeartbeats 1000000 in
theorem link_l (n : Nat) (l r b : TC) (hb : b ≠ .nil) (h1 : (1 : Int) < (((Tr.fork n l r : TC).ht : Nat) : Int) - ((b.ht : Nat) : Int)) (ih : LinkQ D Q tb root r b) : LinkQ D Q tb root (Tr.fork n l r : TC) b := by
  intro S F w h hup hQ
  have ba := (h.ht hQ (Tr.fork n l r : TC) (by simp)).1
  have bb := (h.ht hQ b (by simp)).1
  have i1 : -400000 ≤ (((Tr.fork n l r : TC).ht : Nat) : Int) - ((b.ht : Nat) : Int) := by omega
  have i2 : (((Tr.fork n l r : TC).ht : Nat) : Int) - ((b.ht : Nat) : Int) ≤ 400000 := by omega
  have e1 : (Tr.id (Tr.fork n l r : TC) == -1) = false := Tr.id_ne (by simp)
  have e2 : (Tr.id b == -1) = false := Tr.id_ne hb
  have d1 : decide ((1 : Int) < (((Tr.fork n l r : TC).ht : Nat) : Int) - ((b.ht : Nat) : Int)) = true := decide_eq_true h1
  have NB := Lib.hid hb
  have NL := Lib.hid h.sub.1
  have NR := Lib.hid h.sub.2
  have IH := Lib.hid ih
  clear ba bb h1 hb ih
  have S0 := Lib.hid h
  have O0 := Lib.hid (Off.refl S w)
  have P0 := Lib.hid hup
  have HQ := Lib.hid hQ
  clear h hup hQ
  have hfh := field_ht
  go_enter Try.func67, Try.ntmps67
  go_wp2_with (first
    | (go_at_call 51; with_reducible refine (at_st (Tr.fork n l r : TC) (by simp) S0.out).mono ?_; rintro e w1 ⟨rfl, bb⟩; have S1 := Lib.hid (S0.out.below bb); have O1 := Lib.hid (O0.out.below_r bb); have P1 := Lib.hid (P0.out.below bb); clear bb)
    | (go_at_call 51; with_reducible refine (at_st b (by simp) S1.out).mono ?_; rintro e w2 ⟨rfl, bb⟩; have S2 := Lib.hid (S1.out.below bb); have O2 := Lib.hid (O1.out.below_r bb); have P2 := Lib.hid (P1.out.below bb); clear bb)
    | (go_at_call 62; with_reducible refine (open_q n l r S2.out P2.out).mono ?_; rintro e w3 ⟨rfl, ss, oo⟩; have S3 := Lib.hid ss; have O3 := Lib.hid (O2.out.seq oo); have P3 := Lib.hid (P2.out.off oo); clear ss oo)
    | (go_at_call 67; with_reducible refine (IH.out S _ _ (S3.out.perm ((List.Perm.swap _ _ _).trans (List.Perm.cons _ (List.Perm.swap _ _ _)))) P3.out HQ.out).mono ?_; rintro e w4 ⟨T1, rfl, nT1, eT1, ss, oo⟩; have S4 := Lib.hid ss; have O4 := Lib.hid (O3.out.seq oo); have P4 := Lib.hid (P3.out.off oo); clear ss oo; have NT1 := Lib.hid nT1; have ET1 := Lib.hid eT1; clear nT1 eT1)
    | (go_at_call 84; with_reducible refine (balance_any l T1 (S4.out.perm (List.Perm.swap _ _ _)) P4.out NL.out (NT1.out (.inl NR.out)) HQ.out).mono ?_; rintro e w5 ⟨T, rfl, nT, eT, ss, oo⟩; have S5 := Lib.hid ss; have O5 := Lib.hid (O4.out.seq oo); have P5 := Lib.hid (P4.out.off oo); clear ss oo; have NT := Lib.hid nT; have ET := Lib.hid eT; clear nT eT))
  go_ret
  exact ⟨T, rfl, fun _ => NT.out, by rw [ET.out, ET1.out]; simp [Tr.el], S5.out, O5.out⟩

set_option maxHeartbeats 1000000 in
theorem link_r (n : Nat) (a l r : TC) (ha : a ≠ .nil) (h0 : ¬ (1 : Int) < ((a.ht : Nat) : Int) - (((Tr.fork n l r : TC).ht : Nat) : Int)) (h1 : ((a.ht : Nat) : Int) - (((Tr.fork n l r : TC).ht : Nat) : Int) < -1) (ih : LinkQ D Q tb root a l) : LinkQ D Q tb root a (Tr.fork n l r : TC) := by
  intro S F w h hup hQ
  have ba := (h.ht hQ a (by simp)).1
  have bb := (h.ht hQ (Tr.fork n l r : TC) (by simp)).1
  have i1 : -400000 ≤ ((a.ht : Nat) : Int) - (((Tr.fork n l r : TC).ht : Nat) : Int) := by omega
  have i2 : ((a.ht : Nat) : Int) - (((Tr.fork n l r : TC).ht : Nat) : Int) ≤ 400000 := by omega
  have e1 : (Tr.id a == -1) = false := Tr.id_ne ha
  have e2 : (Tr.id (Tr.fork n l r : TC) == -1) = false := Tr.id_ne (by simp)
  have d0 : decide ((1 : Int) < ((a.ht : Nat) : Int) - (((Tr.fork n l r : TC).ht : Nat) : Int)) = false := decide_eq_false h0
  have d1 : decide (((a.ht : Nat) : Int) - (((Tr.fork n l r : TC).ht : Nat) : Int) < -1) = true := decide_eq_true h1
  have NA := Lib.hid ha
  have hsw := h.perm (List.Perm.swap _ _ _)
  have NL := Lib.hid hsw.sub.1
  have NR := Lib.hid hsw.sub.2
  have IH := Lib.hid ih
  clear ba bb h1 ha ih h0 hsw
  have S0 := Lib.hid h
  have O0 := Lib.hid (Off.refl S w)
  have P0 := Lib.hid hup
  have HQ := Lib.hid hQ
  clear h hup hQ
  have hfh := field_ht
  go_enter Try.func67, Try.ntmps67
  go_wp2_with (first
    | (go_at_call 51; with_reducible refine (at_st a (by simp) S0.out).mono ?_; rintro e w1 ⟨rfl, bb⟩; have S1 := Lib.hid (S0.out.below bb); have O1 := Lib.hid (O0.out.below_r bb); have P1 := Lib.hid (P0.out.below bb); clear bb)
    | (go_at_call 51; with_reducible refine (at_st (Tr.fork n l r : TC) (by simp) S1.out).mono ?_; rintro e w2 ⟨rfl, bb⟩; have S2 := Lib.hid (S1.out.below bb); have O2 := Lib.hid (O1.out.below_r bb); have P2 := Lib.hid (P1.out.below bb); clear bb)
    | (go_at_call 62; with_reducible refine (open_q n l r (S2.out.perm (List.Perm.swap _ _ _)) P2.out).mono ?_; rintro e w3 ⟨rfl, ss, oo⟩; have S3 := Lib.hid ss; have O3 := Lib.hid (O2.out.seq oo); have P3 := Lib.hid (P2.out.off oo); clear ss oo)
    | (go_at_call 67; with_reducible refine (IH.out S _ _ (S3.out.perm ((List.Perm.cons _ (List.Perm.swap _ _ _)).trans (List.Perm.swap _ _ _))) P3.out HQ.out).mono ?_; rintro e w4 ⟨T1, rfl, nT1, eT1, ss, oo⟩; have S4 := Lib.hid ss; have O4 := Lib.hid (O3.out.seq oo); have P4 := Lib.hid (P3.out.off oo); clear ss oo; have NT1 := Lib.hid nT1; have ET1 := Lib.hid eT1; clear nT1 eT1)
    | (go_at_call 84; with_reducible refine (balance_any T1 r S4.out P4.out (NT1.out (.inl NA.out)) NR.out HQ.out).mono ?_; rintro e w5 ⟨T, rfl, nT, eT, ss, oo⟩; have S5 := Lib.hid ss; have O5 := Lib.hid (O4.out.seq oo); have P5 := Lib.hid (P4.out.off oo); clear ss oo; have NT := Lib.hid nT; have ET := Lib.hid eT; clear nT eT))
  go_ret
  exact ⟨T, rfl, fun _ => NT.out, by rw [ET.out, ET1.out]; simp [Tr.el], S5.out, O5.out⟩

theorem link_all : ∀ (k : Nat) (a b : TC), a.ht + b.ht ≤ k → LinkQ D Q tb root a b := by
  intro k
  induction k with
  | zero =>
    intro a b hk
    by_cases ha : a = .nil
    · subst ha; exact link_nil b
    · have := Tr.In.ht_pos ha; omega
  | succ k ih =>
    intro a b hk
    by_cases ha : a = .nil
    · subst ha; exact link_nil b
    by_cases hb : b = .nil
    · subst hb; exact link_nil2 a ha
    have pa := Tr.In.ht_pos ha
    have pb := Tr.In.ht_pos hb
    by_cases h1 : (1 : Int) < ((a.ht : Nat) : Int) - ((b.ht : Nat) : Int)
    · obtain ⟨n, l, r, rfl⟩ := Tr.fork_of_ht (show 2 ≤ a.ht by omega)
      exact link_l n l r b hb h1 (ih r b (by simp only [Tr.ht] at hk; omega))
    · by_cases h2 : ((a.ht : Nat) : Int) - ((b.ht : Nat) : Int) < -1
      · obtain ⟨n, l, r, rfl⟩ := Tr.fork_of_ht (show 2 ≤ b.ht by omega)
        exact link_r n a l r ha h1 h2 (ih a l (by simp only [Tr.ht] at hk; omega))
      · exact link_flat a b ha hb h1 h2
variable {D : Sv → Prop} {S : Nat → Prop} {F : List TC} {w w' W : World}
theorem link_any (a b : TC) (h : Sq D Q S tb root (a :: b :: F) w) (hup : Up S w) (hQ : Q ≤ 4000000000) :
    Calls Try.prog 67 #[.pointer (some ⟨tb, 0, none⟩), .int .i64 a.id, .int .i64 b.id] w fun e w' => ∃ T : TC, e = .returned (.int .i64 T.id) ∧ (a ≠ .nil ∨ b ≠ .nil → T ≠ .nil) ∧ T.el Wc = a.el Wc ++ b.el Wc ∧ Sq D Q S tb root (T :: F) w' ∧ Off S w w' :=
  link_all _ a b (Nat.le_refl _) S F w h hup hQ
end
end Go.Proofs.Yteodfbkfpboehaa
