
import Derived.Test.YteodfbkfpboehaaDL
/- DM: all but the last thing, all but the first one; the last leaf, the first one -/
namespace Go.Proofs.Yteodfbkfpboehaa
open Go.RowKit
set_option linter.unusedVariables false
set_option maxRecDepth 100000

def Tr.lastx : TC → Ck
  | .nil => ck0
  | .leaf _ _ x => x
  | .fork _ _ r => r.lastx
def Tr.firstx : TC → Ck
  | .nil => ck0
  | .leaf _ _ x => x
  | .fork _ l _ => l.firstx
theorem isfork_q (T : TC) (w : World) : Calls Try.prog 57 #[(.agg #[.int .i64 (T.nd Wc).held, .int .i64 (T.ht : Nat), .int .i64 (Wc.ln (T.el Wc) : Nat), .int .i64 0, .int .i64 (T.nd Wc).left, .int .i64 (T.nd Wc).right, .int .i64 (T.nd Wc).thing])] w fun e w' => e = .returned (.bool (decide (2 ≤ T.ht))) ∧ Below w.heap.size w w' := by
  have := isfork_any (T.nd Wc) w
  rw [ndv_q, T.nd_height] at this
  have e : decide ((1 : Int) < ((T.ht : Nat) : Int)) = decide (2 ≤ T.ht) := by rw [decide_eq_decide]; omega
  rw [e] at this
  exact this
theorem isfork_yes (T : TC) (h : 2 ≤ T.ht) (w : World) : Calls Try.prog 57 #[(.agg #[.int .i64 (T.nd Wc).held, .int .i64 (T.ht : Nat), .int .i64 (Wc.ln (T.el Wc) : Nat), .int .i64 0, .int .i64 (T.nd Wc).left, .int .i64 (T.nd Wc).right, .int .i64 (T.nd Wc).thing])] w fun e w' => e = .returned (.bool true) ∧ Below w.heap.size w w' := by
  have := isfork_q T w
  rwa [decide_eq_true h] at this
theorem isfork_no (T : TC) (h : T.ht < 2) (w : World) : Calls Try.prog 57 #[(.agg #[.int .i64 (T.nd Wc).held, .int .i64 (T.ht : Nat), .int .i64 (Wc.ln (T.el Wc) : Nat), .int .i64 0, .int .i64 (T.nd Wc).left, .int .i64 (T.nd Wc).right, .int .i64 (T.nd Wc).thing])] w fun e w' => e = .returned (.bool false) ∧ Below w.heap.size w w' := by
  have := isfork_q T w
  rwa [decide_eq_false (by omega)] at this
theorem fork_ht {n : Nat} {l r : TC} (hl : l ≠ .nil) : 2 ≤ (Tr.fork n l r).ht := by
  have := Tr.In.ht_pos hl
  simp only [Tr.ht]; omega
section
variable {D : Sv → Prop} {Q : Nat} {tb : Nat} {root : Int}
@[reducible] def ButLastQ (D : Sv → Prop) (Q : Nat) (tb : Nat) (root : Int) (T : TC) : Prop := ∀ (S : Nat → Prop) (F : List TC) (w : World), Sq D Q S tb root (T :: F) w → Up S w → Q ≤ 4000000000 →
    Calls Try.prog 70 #[.pointer (some ⟨tb, 0, none⟩), .int .i64 T.id] w fun e w' => ∃ T' : TC, e = .returned (.int .i64 T'.id) ∧ T'.el Wc ++ T.lastx.l = T.el Wc ∧ Sq D Q S tb root (T' :: F) w' ∧ Off S w w'
theorem butLast_leaf (n t : Nat) (x : Ck) : ButLastQ D Q tb root (.leaf n t x) := by
  intro S F w h hup hQ
  obtain ⟨T, hT⟩ : ∃ T : TC, Tr.leaf n t x = T := ⟨_, rfl⟩
  rw [hT] at h ⊢
  have HF : Hid (T.ht < 2) := Lib.hid (by rw [← hT]; exact (by decide : 1 < 2))
  have HTT := Lib.hid hT
  clear hT
  have S0 := Lib.hid h
  have O0 := Lib.hid (Off.refl S w)
  have P0 := Lib.hid hup
  have HQ := Lib.hid hQ
  clear h hup hQ
  have hfh := field_ht
  go_enter Try.func70, Try.ntmps70
  go_wp2_with (first
    | (go_at_call 51; with_reducible refine (at_st T (by simp) S0.out).mono ?_; rintro e w1 ⟨rfl, bb⟩; have S1 := Lib.hid (S0.out.below bb); have O1 := Lib.hid (O0.out.below_r bb); have P1 := Lib.hid (P0.out.below bb); clear bb)
    | (go_at_call 57; with_reducible refine (isfork_no T HF.out _).mono ?_; rintro e w2 ⟨rfl, bb⟩; have S2 := Lib.hid (S1.out.below bb); have O2 := Lib.hid (O1.out.below_r bb); have P2 := Lib.hid (P1.out.below bb); clear bb)
    | (go_at_call 44; with_reducible refine (drop_q T S2.out P2.out).mono ?_; rintro e w3 ⟨rfl, ss, oo⟩; have S3 := Lib.hid ss; have O3 := Lib.hid (O2.out.seq oo); have P3 := Lib.hid (P2.out.off oo); clear ss oo))
  go_ret
  exact ⟨.nil, rfl, by rw [← HTT.out]; simp [Tr.el, Tr.lastx]; rfl, ⟨S3.out.1.nil, by have := S3.out.2; rw [tot_cons]; simp only [Tr.el, Way.wt_nil]; omega⟩, O3.out⟩
theorem butLast_fork (n : Nat) (l r : TC) (ih : ButLastQ D Q tb root r) : ButLastQ D Q tb root (.fork n l r) := by
  intro S F w h hup hQ
  have HF : Hid (2 ≤ (Tr.fork n l r).ht) := Lib.hid (fork_ht h.sub.1)
  have IH := Lib.hid ih
  clear ih
  have S0 := Lib.hid h
  have O0 := Lib.hid (Off.refl S w)
  have P0 := Lib.hid hup
  have HQ := Lib.hid hQ
  clear h hup hQ
  have hfh := field_ht
  go_enter Try.func70, Try.ntmps70
  go_wp2_with (first
    | (go_at_call 51; with_reducible refine (at_st (Tr.fork n l r : TC) (by simp) S0.out).mono ?_; rintro e w1 ⟨rfl, bb⟩; have S1 := Lib.hid (S0.out.below bb); have O1 := Lib.hid (O0.out.below_r bb); have P1 := Lib.hid (P0.out.below bb); clear bb)
    | (go_at_call 57; with_reducible refine (isfork_yes (Tr.fork n l r : TC) HF.out _).mono ?_; rintro e w2 ⟨rfl, bb⟩; have S2 := Lib.hid (S1.out.below bb); have O2 := Lib.hid (O1.out.below_r bb); have P2 := Lib.hid (P1.out.below bb); clear bb)
    | (go_at_call 62; with_reducible refine (open_q n l r S2.out P2.out).mono ?_; rintro e w3 ⟨rfl, ss, oo⟩; have S3 := Lib.hid ss; have O3 := Lib.hid (O2.out.seq oo); have P3 := Lib.hid (P2.out.off oo); clear ss oo)
    | (go_at_call 70; with_reducible refine (IH.out S _ _ (S3.out.perm (List.Perm.swap _ _ _)) P3.out HQ.out).mono ?_; rintro e w4 ⟨T1, rfl, e1, ss, oo⟩; have S4 := Lib.hid ss; have O4 := Lib.hid (O3.out.seq oo); have P4 := Lib.hid (P3.out.off oo); clear ss oo; have E1 := Lib.hid e1; clear e1)
    | (go_at_call 67; with_reducible refine (link_any l T1 (S4.out.perm (List.Perm.swap _ _ _)) P4.out HQ.out).mono ?_; rintro e w5 ⟨T2, rfl, n2, e2, ss, oo⟩; have S5 := Lib.hid ss; have O5 := Lib.hid (O4.out.seq oo); have P5 := Lib.hid (P4.out.off oo); clear ss oo; have E2 := Lib.hid e2; clear n2 e2))
  go_ret
  exact ⟨T2, rfl, (by rw [E2.out]; simp only [Tr.el, Tr.lastx, List.append_assoc]; rw [← E1.out]; try simp), S5.out, O5.out⟩
theorem butLast_all : ∀ (T : TC), T ≠ .nil → (∃ A C, T.In Wc A C) → ButLastQ D Q tb root T
  | .nil, h, _ => absurd rfl h
  | .leaf n t x, _, _ => butLast_leaf n t x
  | .fork n l r, _, ⟨A, C, hi⟩ => butLast_fork n l r (butLast_all r hi.2.2.1 ⟨A, C, hi.2.2.2.2⟩)
@[reducible] def ButFirstQ (D : Sv → Prop) (Q : Nat) (tb : Nat) (root : Int) (T : TC) : Prop := ∀ (S : Nat → Prop) (F : List TC) (w : World), Sq D Q S tb root (T :: F) w → Up S w → Q ≤ 4000000000 →
    Calls Try.prog 71 #[.pointer (some ⟨tb, 0, none⟩), .int .i64 T.id] w fun e w' => ∃ T' : TC, e = .returned (.int .i64 T'.id) ∧ T.firstx.l ++ T'.el Wc = T.el Wc ∧ Sq D Q S tb root (T' :: F) w' ∧ Off S w w'
theorem butFirst_leaf (n t : Nat) (x : Ck) : ButFirstQ D Q tb root (.leaf n t x) := by
  intro S F w h hup hQ
  obtain ⟨T, hT⟩ : ∃ T : TC, Tr.leaf n t x = T := ⟨_, rfl⟩
  rw [hT] at h ⊢
  have HF : Hid (T.ht < 2) := Lib.hid (by rw [← hT]; exact (by decide : 1 < 2))
  have HTT := Lib.hid hT
  clear hT
  have S0 := Lib.hid h
  have O0 := Lib.hid (Off.refl S w)
  have P0 := Lib.hid hup
  have HQ := Lib.hid hQ
  clear h hup hQ
  have hfh := field_ht
  go_enter Try.func71, Try.ntmps71
  go_wp2_with (first
    | (go_at_call 51; with_reducible refine (at_st T (by simp) S0.out).mono ?_; rintro e w1 ⟨rfl, bb⟩; have S1 := Lib.hid (S0.out.below bb); have O1 := Lib.hid (O0.out.below_r bb); have P1 := Lib.hid (P0.out.below bb); clear bb)
    | (go_at_call 57; with_reducible refine (isfork_no T HF.out _).mono ?_; rintro e w2 ⟨rfl, bb⟩; have S2 := Lib.hid (S1.out.below bb); have O2 := Lib.hid (O1.out.below_r bb); have P2 := Lib.hid (P1.out.below bb); clear bb)
    | (go_at_call 44; with_reducible refine (drop_q T S2.out P2.out).mono ?_; rintro e w3 ⟨rfl, ss, oo⟩; have S3 := Lib.hid ss; have O3 := Lib.hid (O2.out.seq oo); have P3 := Lib.hid (P2.out.off oo); clear ss oo))
  go_ret
  exact ⟨.nil, rfl, by rw [← HTT.out]; simp [Tr.el, Tr.firstx]; rfl, ⟨S3.out.1.nil, by have := S3.out.2; rw [tot_cons]; simp only [Tr.el, Way.wt_nil]; omega⟩, O3.out⟩
theorem butFirst_fork (n : Nat) (l r : TC) (ih : ButFirstQ D Q tb root l) : ButFirstQ D Q tb root (.fork n l r) := by
  intro S F w h hup hQ
  have HF : Hid (2 ≤ (Tr.fork n l r).ht) := Lib.hid (fork_ht h.sub.1)
  have IH := Lib.hid ih
  clear ih
  have S0 := Lib.hid h
  have O0 := Lib.hid (Off.refl S w)
  have P0 := Lib.hid hup
  have HQ := Lib.hid hQ
  clear h hup hQ
  have hfh := field_ht
  go_enter Try.func71, Try.ntmps71
  go_wp2_with (first
    | (go_at_call 51; with_reducible refine (at_st (Tr.fork n l r : TC) (by simp) S0.out).mono ?_; rintro e w1 ⟨rfl, bb⟩; have S1 := Lib.hid (S0.out.below bb); have O1 := Lib.hid (O0.out.below_r bb); have P1 := Lib.hid (P0.out.below bb); clear bb)
    | (go_at_call 57; with_reducible refine (isfork_yes (Tr.fork n l r : TC) HF.out _).mono ?_; rintro e w2 ⟨rfl, bb⟩; have S2 := Lib.hid (S1.out.below bb); have O2 := Lib.hid (O1.out.below_r bb); have P2 := Lib.hid (P1.out.below bb); clear bb)
    | (go_at_call 62; with_reducible refine (open_q n l r S2.out P2.out).mono ?_; rintro e w3 ⟨rfl, ss, oo⟩; have S3 := Lib.hid ss; have O3 := Lib.hid (O2.out.seq oo); have P3 := Lib.hid (P2.out.off oo); clear ss oo)
    | (go_at_call 71; with_reducible refine (IH.out S _ _ S3.out P3.out HQ.out).mono ?_; rintro e w4 ⟨T1, rfl, e1, ss, oo⟩; have S4 := Lib.hid ss; have O4 := Lib.hid (O3.out.seq oo); have P4 := Lib.hid (P3.out.off oo); clear ss oo; have E1 := Lib.hid e1; clear e1)
    | (go_at_call 67; with_reducible refine (link_any T1 r S4.out P4.out HQ.out).mono ?_; rintro e w5 ⟨T2, rfl, n2, e2, ss, oo⟩; have S5 := Lib.hid ss; have O5 := Lib.hid (O4.out.seq oo); have P5 := Lib.hid (P4.out.off oo); clear ss oo; have E2 := Lib.hid e2; clear n2 e2))
  go_ret
  exact ⟨T2, rfl, (by rw [E2.out]; simp only [Tr.el, Tr.firstx]; rw [← E1.out]; try simp), S5.out, O5.out⟩
theorem butFirst_all : ∀ (T : TC), T ≠ .nil → (∃ A C, T.In Wc A C) → ButFirstQ D Q tb root T
  | .nil, h, _ => absurd rfl h
  | .leaf n t x, _, _ => butFirst_leaf n t x
  | .fork n l r, _, ⟨A, C, hi⟩ => butFirst_fork n l r (butFirst_all l hi.2.1 ⟨A, C, hi.2.2.2.1⟩)
end
end Go.Proofs.Yteodfbkfpboehaa
