
import Derived.Test.YteodfbkfpboehaaDJ
/- DK: the calls on a forest, with how long it is in all; balance -/
namespace Go.Proofs.Yteodfbkfpboehaa
open Go.RowKit
set_option linter.unusedVariables false
set_option maxRecDepth 100000

/-- A forest in a tree's arenas, of at most weight Q in all. -/
def Sq (D : Sv → Prop) (Q : Nat) (S : Nat → Prop) (tb : Nat) (root : Int) (F : List TC) (w : World) : Prop := St D S tb root F w ∧ tot Wc F ≤ Q
/-! parts of a struct that a call told -/
theorem field_ht (a0 a1 a2 a3 a4 a5 a6 : Value) (w : World) : (Instr.field 102 (.agg #[a0, a1, a2, a3, a4, a5, a6]) 1).run Try.prog w = .ok a1 w := by kernel_rfl
theorem field_sz (a0 a1 a2 a3 a4 a5 a6 : Value) (w : World) : (Instr.field 102 (.agg #[a0, a1, a2, a3, a4, a5, a6]) 2).run Try.prog w = .ok (.agg #[a2, a3]) w := by kernel_rfl
theorem field_len (a0 a1 : Value) (w : World) : (Instr.field 74 (.agg #[a0, a1]) 0).run Try.prog w = .ok a0 w := by kernel_rfl
theorem field_mks (a0 a1 : Value) (w : World) : (Instr.field 74 (.agg #[a0, a1]) 1).run Try.prog w = .ok a1 w := by kernel_rfl
/-- A node as it is told. -/
@[reducible] def ndq (T : TC) : Value := .agg #[.int .i64 (T.nd Wc).held, .int .i64 (T.ht : Nat), .int .i64 (Wc.ln (T.el Wc) : Nat), .int .i64 0, .int .i64 (T.nd Wc).left, .int .i64 (T.nd Wc).right, .int .i64 (T.nd Wc).thing]
theorem ndv_q (T : TC) : ndv (T.nd Wc) = ndq T := by
  unfold ndv ndq
  rw [T.nd_height, T.nd_len, T.nd_marks]; rfl
section
variable {Q : Nat} {D : Sv → Prop} {S : Nat → Prop} {tb : Nat} {root : Int} {F : List TC} {w w' W : World}
theorem Sq.below (h : Sq D Q S tb root F w) (hb : Below w.heap.size w w') : Sq D Q S tb root F w' := ⟨h.1.below hb, h.2⟩
theorem tot_perm {F F' : List TC} (hp : F.Perm F') : tot Wc F = tot Wc F' := (hp.map _).sum_nat
theorem Sq.perm {F' : List TC} (h : Sq D Q S tb root F w) (hp : F.Perm F') : Sq D Q S tb root F' w := ⟨h.1.perm hp, by rw [← tot_perm hp]; exact h.2⟩
theorem Sq.mono (h : Sq D Q S tb root F w) {S' : Nat → Prop} (hS : ∀ k, S k → S' k) : Sq D Q S' tb root F w := ⟨h.1.mono hS, h.2⟩
theorem Sq.loc (h : Sq D Q S tb root F w) (hb : Below w.heap.size w W) : Sq D Q (Loc S w W) tb root F W := ⟨h.1.loc hb, h.2⟩
theorem Sq.inn (h : Sq D Q S tb root F w) : ∀ T ∈ F, ∃ A C, T.In Wc A C := by
  obtain ⟨⟨an, cn, U, V, A, C, h1, h2⟩, -⟩ := h
  exact fun T hT => ⟨A, C, h2.inn T hT⟩
theorem Sq.ht (h : Sq D Q S tb root F w) (hQ : Q ≤ 4000000000) (T : TC) (hT : T ∈ F) : T.ht ≤ 400000 ∧ Wc.ln (T.el Wc) ≤ 4000000000 ∧ (T.el Wc).length ≤ 400000 := by
  obtain ⟨A, C, hi⟩ := h.inn T hT
  have := hi.ht_le
  obtain ⟨⟨an, cn, U, V, A, C, h1, h2⟩, h3⟩ := h
  have := tot_at h2 T hT
  have h4 := Wc.wt_len (T.el Wc)
  have h5 := Wc.wt_ln (T.el Wc)
  omega
theorem mem_at {A : ArS Nd} {C : ArS Ck} : ∀ {T : TC}, T.In Wc A C → ∀ x ∈ T.el Wc, ∃ t, C.at_ t = some x
  | .nil, _, x, hx => by cases hx
  | .leaf n t y, h, x, hx => by
    have hx : x ∈ y.l := hx
    unfold Ck.l at hx
    split at hx
    · cases hx
    · obtain rfl : x = y := by simpa using hx
      exact ⟨t, h.2.1⟩
  | .fork n l r, h, x, hx => by
    rcases List.mem_append.1 (show x ∈ l.el Wc ++ r.el Wc from hx) with hx | hx
    · exact mem_at h.2.2.2.1 x hx
    · exact mem_at h.2.2.2.2 x hx
theorem Sq.dmem (h : Sq D Q S tb root F w) {T : TC} (hT : T ∈ F) {x : Ck} (hx : x ∈ T.el Wc) : D x.d := by
  obtain ⟨⟨an, cn, U, V, A, C, h1, h2⟩, -⟩ := h
  obtain ⟨t, ht⟩ := mem_at (h2.inn T hT) x hx
  exact h1.cD t x ht
theorem Sq.reads (h : Sq D Q S tb root F w) {d : Sv} (hd : D d) : Arow w d.v d.s ∧ d.s.length ≤ 100000 := by
  obtain ⟨⟨an, cn, U, V, A, C, h1, h2⟩, -⟩ := h
  exact ⟨(h1.kD d hd).1, (h1.kD d hd).2.1⟩
/-- More sets are kept: such as lie apart from all of S. -/
theorem Sq.grow {D' : Sv → Prop} {S' : Nat → Prop} (h : Sq D Q S tb root F w) (hS : ∀ k, S k → S' k) (hs : ∀ d, D d → D' d) (hn : ∀ d, D' d → D d ∨ (Arow w d.v d.s ∧ d.s.length ≤ 100000 ∧ ∀ k, d.v.ownBlock = some k → S' k ∧ ¬ S k ∧ k < w.heap.size)) : Sq D' Q S' tb root F w := by
  obtain ⟨⟨an, cn, U, V, A, C, h1, h2⟩, h3⟩ := h
  refine ⟨⟨an, cn, U, V, A, C, ⟨h1.hd, h1.nodes, h1.things, fun k hk => hS k (h1.uS k hk), fun k hk => hS k (h1.vS k hk), hS _ h1.tS, h1.uv, h1.ut, h1.vt, h1.uw, h1.vw, fun d hd => ?_, fun t x hx => hs _ (h1.cD t x hx)⟩, h2⟩, h3⟩
  rcases hn d hd with hd | ⟨q1, q2, q3⟩
  · obtain ⟨q1, q2, q3⟩ := h1.kD d hd
    exact ⟨q1, q2, fun k hk => ⟨hS k (q3 k hk).1, (q3 k hk).2⟩⟩
  · exact ⟨q1, q2, fun k hk => ⟨(q3 k hk).1, fun hu => (q3 k hk).2.1 (h1.uS k hu), fun hv => (q3 k hk).2.1 (h1.vS k hv), fun e => (q3 k hk).2.1 (e ▸ h1.tS), (q3 k hk).2.2⟩⟩
theorem at_st (T : TC) (hT : T ∈ F) (h : Sq D Q S tb root F w) : Calls Try.prog 51 #[.pointer (some ⟨tb, 0, none⟩), .int .i64 T.id] w fun e w' => e = .returned (.agg #[.int .i64 (T.nd Wc).held, .int .i64 (T.ht : Nat), .int .i64 (Wc.ln (T.el Wc) : Nat), .int .i64 0, .int .i64 (T.nd Wc).left, .int .i64 (T.nd Wc).right, .int .i64 (T.nd Wc).thing]) ∧ Below w.heap.size w w' := by
  obtain ⟨⟨an, cn, U, V, A, C, h1, h2⟩, -⟩ := h
  have := at_any T h1 (h2.inn T hT)
  rw [ndv_q] at this
  exact this
theorem open_q (n : Nat) (l r : TC) (h : Sq D Q S tb root (.fork n l r :: F) w) (hup : Up S w) :
    Calls Try.prog 62 #[.pointer (some ⟨tb, 0, none⟩), .int .i64 (Tr.fork n l r : TC).id] w fun e w' => e = .returned (.tuple #[.int .i64 l.id, .int .i64 r.id]) ∧ Sq D Q S tb root (l :: r :: F) w' ∧ Off S w w' := by
  refine (open_any n l r h.1 hup).mono ?_
  rintro e w' ⟨q1, q2, q3⟩
  refine ⟨q1, ⟨q2, ?_⟩, q3⟩
  have := h.2
  rw [tot_cons] at this
  rw [tot_cons, tot_cons]
  simp only [Tr.el, Way.wt_app] at this
  omega
theorem fork_q (l r : TC) (h : Sq D Q S tb root (l :: r :: F) w) (hup : Up S w) (hl : l ≠ .nil) (hr : r ≠ .nil) (hQ : Q ≤ 4000000000) :
    Calls Try.prog 78 #[.pointer (some ⟨tb, 0, none⟩), .int .i64 l.id, .int .i64 r.id] w fun e w' => ∃ T : TC, e = .returned (.int .i64 T.id) ∧ T ≠ .nil ∧ T.el Wc = l.el Wc ++ r.el Wc ∧ Sq D Q S tb root (T :: F) w' ∧ Off S w w' := by
  refine (fork_any l r h.1 hup hl hr (Nat.le_trans h.2 hQ)).mono ?_
  rintro e w' ⟨n, q1, q2, q3⟩
  refine ⟨.fork n l r, q1, by simp, rfl, ⟨q2, ?_⟩, q3⟩
  have := h.2
  rw [tot_cons, tot_cons] at this
  rw [tot_cons]
  simp only [Tr.el, Way.wt_app]
  omega
theorem drop_q (T : TC) (h : Sq D Q S tb root (T :: F) w) (hup : Up S w) :
    Calls Try.prog 44 #[.pointer (some ⟨tb, 0, none⟩), .int .i64 T.id] w fun e w' => e = .returned (.tuple #[]) ∧ Sq D Q S tb root F w' ∧ Off S w w' := by
  refine (drop_any T F S w h.1 hup).mono ?_
  rintro e w' ⟨q1, q2, q3⟩
  refine ⟨q1, ⟨q2, ?_⟩, q3⟩
  have := h.2
  rw [tot_cons] at this
  omega
theorem leaf_q (x : Ck) (h : Sq D Q S tb root F w) (hup : Up S w) (hQ : Q ≤ 4000000000) (hdx : D x.d) :
    Calls Try.prog 61 #[.pointer (some ⟨tb, 0, none⟩), cvs x] w fun e w' => ∃ L : TC, e = .returned (.int .i64 L.id) ∧ L.el Wc = x.l ∧ Sq D (Q + Wc.wt x.l) S tb root (L :: F) w' ∧ Off S w w' := by
  refine (leaf_any x h.1 hup (Nat.le_trans h.2 hQ) hdx).mono ?_
  rintro e w' ⟨L, q1, q2, q3, q4⟩
  refine ⟨L, q1, q2, ⟨q3, ?_⟩, q4⟩
  have := h.2
  rw [tot_cons, q2]
  omega
theorem Tr.fork_of_ht {T : TC} (h : 2 ≤ T.ht) : ∃ n l r, T = .fork n l r := by
  cases T with
  | nil => simp [Tr.ht] at h
  | leaf n t x => simp [Tr.ht] at h
  | fork n l r => exact ⟨n, l, r, rfl⟩
theorem Sq.sub {n : Nat} {l r : TC} (h : Sq D Q S tb root (.fork n l r :: F) w) : l ≠ .nil ∧ r ≠ .nil := by
  obtain ⟨A, C, hi⟩ := h.inn _ List.mem_cons_self
  exact ⟨hi.2.1, hi.2.2.1⟩

set_option maxHeartbeats 1000000 in
theorem bal_flat (a b : TC) (h : Sq D Q S tb root (a :: b :: F) w) (hup : Up S w) (hQ : Q ≤ 4000000000) (ha : a ≠ .nil) (hb : b ≠ .nil) (h1 : ¬ (1 : Int) < ((a.ht : Nat) : Int) - ((b.ht : Nat) : Int)) (h2 : ¬ ((a.ht : Nat) : Int) - ((b.ht : Nat) : Int) < -1) :
    Calls Try.prog 84 #[.pointer (some ⟨tb, 0, none⟩), .int .i64 a.id, .int .i64 b.id] w fun e w' => ∃ T : TC, e = .returned (.int .i64 T.id) ∧ T ≠ .nil ∧ T.el Wc = (a.el Wc ++ b.el Wc) ∧ Sq D Q S tb root (T :: F) w' ∧ Off S w w' := by
  have ba := (h.ht hQ a (by simp)).1
  have bb := (h.ht hQ b (by simp)).1
  have i1 : -400000 ≤ ((a.ht : Nat) : Int) - ((b.ht : Nat) : Int) := by omega
  have i2 : ((a.ht : Nat) : Int) - ((b.ht : Nat) : Int) ≤ 400000 := by omega
  have d1 : decide ((1 : Int) < ((a.ht : Nat) : Int) - ((b.ht : Nat) : Int)) = false := decide_eq_false h1
  have d2 : decide (((a.ht : Nat) : Int) - ((b.ht : Nat) : Int) < -1) = false := decide_eq_false h2
  have NA := Lib.hid ha
  have NB := Lib.hid hb
  clear h1 h2 ha hb ba bb
  have S0 := Lib.hid h
  have O0 := Lib.hid (Off.refl S w)
  have P0 := Lib.hid hup
  have HQ := Lib.hid hQ
  clear h hup hQ
  have hfh := field_ht
  go_enter Try.func84, Try.ntmps84
  go_wp2_with (first
    | (go_at_call 51; with_reducible refine (at_st a (by simp) S0.out).mono ?_; rintro e w1 ⟨rfl, bb⟩; have S1 := Lib.hid (S0.out.below bb); have O1 := Lib.hid (O0.out.below_r bb); have P1 := Lib.hid (P0.out.below bb); clear bb)
    | (go_at_call 51; with_reducible refine (at_st b (by simp) S1.out).mono ?_; rintro e w2 ⟨rfl, bb⟩; have S2 := Lib.hid (S1.out.below bb); have O2 := Lib.hid (O1.out.below_r bb); have P2 := Lib.hid (P1.out.below bb); clear bb)
    | (go_at_call 78; with_reducible refine (fork_q a b S2.out P2.out NA.out NB.out HQ.out).mono ?_; rintro e w3 ⟨T, rfl, nT, eT, ss, oo⟩; have S3 := Lib.hid ss; have O3 := Lib.hid (O2.out.seq oo); have P3 := Lib.hid (P2.out.off oo); clear ss oo; have NT := Lib.hid nT; have ET := Lib.hid eT; clear nT eT))
  go_ret
  exact ⟨T, rfl, NT.out, ET.out, S3.out, O3.out⟩
theorem Sq.subr {n m : Nat} {l r1 r2 : TC} (h : Sq D Q S tb root (.fork n l (.fork m r1 r2) :: F) w) : r1 ≠ .nil ∧ r2 ≠ .nil := by
  obtain ⟨A, C, hi⟩ := h.inn _ List.mem_cons_self
  exact ⟨hi.2.2.2.2.2.1, hi.2.2.2.2.2.2.1⟩
theorem Sq.subl {n m : Nat} {l1 l2 r : TC} (h : Sq D Q S tb root (.fork n (.fork m l1 l2) r :: F) w) : l1 ≠ .nil ∧ l2 ≠ .nil := by
  obtain ⟨A, C, hi⟩ := h.inn _ List.mem_cons_self
  exact ⟨hi.2.2.2.1.2.1, hi.2.2.2.1.2.2.1⟩

set_option maxHeartbeats 1000000 in
theorem bal_l1 (n : Nat) (l r b : TC) (h : Sq D Q S tb root (.fork n l r :: b :: F) w) (hup : Up S w) (hQ : Q ≤ 4000000000) (hb : b ≠ .nil) (h1 : (1 : Int) < (((Tr.fork n l r : TC).ht : Nat) : Int) - ((b.ht : Nat) : Int)) (h2 : r.ht ≤ l.ht) :
    Calls Try.prog 84 #[.pointer (some ⟨tb, 0, none⟩), .int .i64 (Tr.fork n l r : TC).id, .int .i64 b.id] w fun e w' => ∃ T : TC, e = .returned (.int .i64 T.id) ∧ T ≠ .nil ∧ T.el Wc = ((Tr.fork n l r : TC).el Wc ++ b.el Wc) ∧ Sq D Q S tb root (T :: F) w' ∧ Off S w w' := by
  have ba := (h.ht hQ (Tr.fork n l r : TC) (by simp)).1
  have bb := (h.ht hQ b (by simp)).1
  have i1 : -400000 ≤ (((Tr.fork n l r : TC).ht : Nat) : Int) - ((b.ht : Nat) : Int) := by omega
  have i2 : (((Tr.fork n l r : TC).ht : Nat) : Int) - ((b.ht : Nat) : Int) ≤ 400000 := by omega
  have d1 : decide ((1 : Int) < (((Tr.fork n l r : TC).ht : Nat) : Int) - ((b.ht : Nat) : Int)) = true := decide_eq_true h1
  have d3 : decide (r.ht ≤ l.ht) = true := decide_eq_true h2
  have NB := Lib.hid hb
  have NL := Lib.hid h.sub.1
  have NR := Lib.hid h.sub.2
  clear h1 h2 hb ba bb
  have S0 := Lib.hid h
  have O0 := Lib.hid (Off.refl S w)
  have P0 := Lib.hid hup
  have HQ := Lib.hid hQ
  clear h hup hQ
  have hfh := field_ht
  go_enter Try.func84, Try.ntmps84
  go_wp2_with (first
    | (go_at_call 51; with_reducible refine (at_st (Tr.fork n l r : TC) (by simp) S0.out).mono ?_; rintro e w1 ⟨rfl, bb⟩; have S1 := Lib.hid (S0.out.below bb); have O1 := Lib.hid (O0.out.below_r bb); have P1 := Lib.hid (P0.out.below bb); clear bb)
    | (go_at_call 51; with_reducible refine (at_st b (by simp) S1.out).mono ?_; rintro e w2 ⟨rfl, bb⟩; have S2 := Lib.hid (S1.out.below bb); have O2 := Lib.hid (O1.out.below_r bb); have P2 := Lib.hid (P1.out.below bb); clear bb)
    | (go_at_call 62; with_reducible refine (open_q n l r S2.out P2.out).mono ?_; rintro e w3 ⟨rfl, ss, oo⟩; have S3 := Lib.hid ss; have O3 := Lib.hid (O2.out.seq oo); have P3 := Lib.hid (P2.out.off oo); clear ss oo)
    | (go_at_call 51; with_reducible refine (at_st r (by simp) S3.out).mono ?_; rintro e w4 ⟨rfl, bb⟩; have S4 := Lib.hid (S3.out.below bb); have O4 := Lib.hid (O3.out.below_r bb); have P4 := Lib.hid (P3.out.below bb); clear bb)
    | (go_at_call 51; with_reducible refine (at_st l (by simp) S4.out).mono ?_; rintro e w5 ⟨rfl, bb⟩; have S5 := Lib.hid (S4.out.below bb); have O5 := Lib.hid (O4.out.below_r bb); have P5 := Lib.hid (P4.out.below bb); clear bb)
    | (go_at_call 78; with_reducible refine (fork_q r b (S5.out.perm ((List.Perm.swap _ _ _).trans (List.Perm.cons _ (List.Perm.swap _ _ _)))) P5.out NR.out NB.out HQ.out).mono ?_; rintro e w6 ⟨T1, rfl, nT1, eT1, ss, oo⟩; have S6 := Lib.hid ss; have O6 := Lib.hid (O5.out.seq oo); have P6 := Lib.hid (P5.out.off oo); clear ss oo; have NT1 := Lib.hid nT1; have ET1 := Lib.hid eT1; clear nT1 eT1)
    | (go_at_call 78; with_reducible refine (fork_q l T1 (S6.out.perm (List.Perm.swap _ _ _)) P6.out NL.out NT1.out HQ.out).mono ?_; rintro e w7 ⟨T, rfl, nT, eT, ss, oo⟩; have S7 := Lib.hid ss; have O7 := Lib.hid (O6.out.seq oo); have P7 := Lib.hid (P6.out.off oo); clear ss oo; have NT := Lib.hid nT; have ET := Lib.hid eT; clear nT eT))
  go_ret
  exact ⟨T, rfl, NT.out, by rw [ET.out, ET1.out]; simp [Tr.el], S7.out, O7.out⟩

set_option maxHeartbeats 1000000 in
theorem bal_l2 (n m : Nat) (l r1 r2 b : TC) (h : Sq D Q S tb root (.fork n l (.fork m r1 r2) :: b :: F) w) (hup : Up S w) (hQ : Q ≤ 4000000000) (hb : b ≠ .nil) (h1 : (1 : Int) < (((Tr.fork n l (.fork m r1 r2) : TC).ht : Nat) : Int) - ((b.ht : Nat) : Int)) (h2 : ¬ (Tr.fork m r1 r2 : TC).ht ≤ l.ht) :
    Calls Try.prog 84 #[.pointer (some ⟨tb, 0, none⟩), .int .i64 (Tr.fork n l (.fork m r1 r2) : TC).id, .int .i64 b.id] w fun e w' => ∃ T : TC, e = .returned (.int .i64 T.id) ∧ T ≠ .nil ∧ T.el Wc = ((Tr.fork n l (.fork m r1 r2) : TC).el Wc ++ b.el Wc) ∧ Sq D Q S tb root (T :: F) w' ∧ Off S w w' := by
  have ba := (h.ht hQ (Tr.fork n l (.fork m r1 r2) : TC) (by simp)).1
  have bb := (h.ht hQ b (by simp)).1
  have i1 : -400000 ≤ (((Tr.fork n l (.fork m r1 r2) : TC).ht : Nat) : Int) - ((b.ht : Nat) : Int) := by omega
  have i2 : (((Tr.fork n l (.fork m r1 r2) : TC).ht : Nat) : Int) - ((b.ht : Nat) : Int) ≤ 400000 := by omega
  have d1 : decide ((1 : Int) < (((Tr.fork n l (.fork m r1 r2) : TC).ht : Nat) : Int) - ((b.ht : Nat) : Int)) = true := decide_eq_true h1
  have d3 : decide ((Tr.fork m r1 r2 : TC).ht ≤ l.ht) = false := decide_eq_false h2
  have NB := Lib.hid hb
  have NL := Lib.hid h.sub.1
  have NR1 := Lib.hid h.subr.1
  have NR2 := Lib.hid h.subr.2
  clear h1 h2 hb ba bb
  have S0 := Lib.hid h
  have O0 := Lib.hid (Off.refl S w)
  have P0 := Lib.hid hup
  have HQ := Lib.hid hQ
  clear h hup hQ
  have hfh := field_ht
  go_enter Try.func84, Try.ntmps84
  go_wp2_with (first
    | (go_at_call 51; with_reducible refine (at_st (Tr.fork n l (.fork m r1 r2) : TC) (by simp) S0.out).mono ?_; rintro e w1 ⟨rfl, bb⟩; have S1 := Lib.hid (S0.out.below bb); have O1 := Lib.hid (O0.out.below_r bb); have P1 := Lib.hid (P0.out.below bb); clear bb)
    | (go_at_call 51; with_reducible refine (at_st b (by simp) S1.out).mono ?_; rintro e w2 ⟨rfl, bb⟩; have S2 := Lib.hid (S1.out.below bb); have O2 := Lib.hid (O1.out.below_r bb); have P2 := Lib.hid (P1.out.below bb); clear bb)
    | (go_at_call 62; with_reducible refine (open_q n l (Tr.fork m r1 r2 : TC) S2.out P2.out).mono ?_; rintro e w3 ⟨rfl, ss, oo⟩; have S3 := Lib.hid ss; have O3 := Lib.hid (O2.out.seq oo); have P3 := Lib.hid (P2.out.off oo); clear ss oo)
    | (go_at_call 51; with_reducible refine (at_st (Tr.fork m r1 r2 : TC) (by simp) S3.out).mono ?_; rintro e w4 ⟨rfl, bb⟩; have S4 := Lib.hid (S3.out.below bb); have O4 := Lib.hid (O3.out.below_r bb); have P4 := Lib.hid (P3.out.below bb); clear bb)
    | (go_at_call 51; with_reducible refine (at_st l (by simp) S4.out).mono ?_; rintro e w5 ⟨rfl, bb⟩; have S5 := Lib.hid (S4.out.below bb); have O5 := Lib.hid (O4.out.below_r bb); have P5 := Lib.hid (P4.out.below bb); clear bb)
    | (go_at_call 62; with_reducible refine (open_q m r1 r2 (S5.out.perm (List.Perm.swap _ _ _)) P5.out).mono ?_; rintro e w6 ⟨rfl, ss, oo⟩; have S6 := Lib.hid ss; have O6 := Lib.hid (O5.out.seq oo); have P6 := Lib.hid (P5.out.off oo); clear ss oo)
    | (go_at_call 78; with_reducible refine (fork_q l r1 (S6.out.perm ((List.Perm.cons _ (List.Perm.swap _ _ _)).trans (List.Perm.swap _ _ _))) P6.out NL.out NR1.out HQ.out).mono ?_; rintro e w7 ⟨T1, rfl, nT1, eT1, ss, oo⟩; have S7 := Lib.hid ss; have O7 := Lib.hid (O6.out.seq oo); have P7 := Lib.hid (P6.out.off oo); clear ss oo; have NT1 := Lib.hid nT1; have ET1 := Lib.hid eT1; clear nT1 eT1)
    | (go_at_call 78; with_reducible refine (fork_q r2 b (S7.out.perm ((List.Perm.swap _ _ _).trans (List.Perm.cons _ (List.Perm.swap _ _ _)))) P7.out NR2.out NB.out HQ.out).mono ?_; rintro e w8 ⟨T2, rfl, nT2, eT2, ss, oo⟩; have S8 := Lib.hid ss; have O8 := Lib.hid (O7.out.seq oo); have P8 := Lib.hid (P7.out.off oo); clear ss oo; have NT2 := Lib.hid nT2; have ET2 := Lib.hid eT2; clear nT2 eT2)
    | (go_at_call 78; with_reducible refine (fork_q T1 T2 (S8.out.perm (List.Perm.swap _ _ _)) P8.out NT1.out NT2.out HQ.out).mono ?_; rintro e w9 ⟨T, rfl, nT, eT, ss, oo⟩; have S9 := Lib.hid ss; have O9 := Lib.hid (O8.out.seq oo); have P9 := Lib.hid (P8.out.off oo); clear ss oo; have NT := Lib.hid nT; have ET := Lib.hid eT; clear nT eT))
  go_ret
  exact ⟨T, rfl, NT.out, by rw [ET.out, ET1.out, ET2.out]; simp [Tr.el], S9.out, O9.out⟩

set_option maxHeartbeats 1000000 in
theorem bal_r1 (n : Nat) (a l r : TC) (h : Sq D Q S tb root (a :: .fork n l r :: F) w) (hup : Up S w) (hQ : Q ≤ 4000000000) (ha : a ≠ .nil) (h0 : ¬ (1 : Int) < ((a.ht : Nat) : Int) - (((Tr.fork n l r : TC).ht : Nat) : Int)) (h1 : ((a.ht : Nat) : Int) - (((Tr.fork n l r : TC).ht : Nat) : Int) < -1) (h2 : l.ht ≤ r.ht) :
    Calls Try.prog 84 #[.pointer (some ⟨tb, 0, none⟩), .int .i64 a.id, .int .i64 (Tr.fork n l r : TC).id] w fun e w' => ∃ T : TC, e = .returned (.int .i64 T.id) ∧ T ≠ .nil ∧ T.el Wc = (a.el Wc ++ (Tr.fork n l r : TC).el Wc) ∧ Sq D Q S tb root (T :: F) w' ∧ Off S w w' := by
  have ba := (h.ht hQ a (by simp)).1
  have bb := (h.ht hQ (Tr.fork n l r : TC) (by simp)).1
  have i1 : -400000 ≤ ((a.ht : Nat) : Int) - (((Tr.fork n l r : TC).ht : Nat) : Int) := by omega
  have i2 : ((a.ht : Nat) : Int) - (((Tr.fork n l r : TC).ht : Nat) : Int) ≤ 400000 := by omega
  have d0 : decide ((1 : Int) < ((a.ht : Nat) : Int) - (((Tr.fork n l r : TC).ht : Nat) : Int)) = false := decide_eq_false h0
  have d1 : decide (((a.ht : Nat) : Int) - (((Tr.fork n l r : TC).ht : Nat) : Int) < -1) = true := decide_eq_true h1
  have d3 : decide (l.ht ≤ r.ht) = true := decide_eq_true h2
  have NA := Lib.hid ha
  have hsw := h.perm (List.Perm.swap _ _ _)
  have NL := Lib.hid hsw.sub.1
  have NR := Lib.hid hsw.sub.2
  clear h1 h2 ha ba bb h0 hsw
  have S0 := Lib.hid h
  have O0 := Lib.hid (Off.refl S w)
  have P0 := Lib.hid hup
  have HQ := Lib.hid hQ
  clear h hup hQ
  have hfh := field_ht
  go_enter Try.func84, Try.ntmps84
  go_wp2_with (first
    | (go_at_call 51; with_reducible refine (at_st a (by simp) S0.out).mono ?_; rintro e w1 ⟨rfl, bb⟩; have S1 := Lib.hid (S0.out.below bb); have O1 := Lib.hid (O0.out.below_r bb); have P1 := Lib.hid (P0.out.below bb); clear bb)
    | (go_at_call 51; with_reducible refine (at_st (Tr.fork n l r : TC) (by simp) S1.out).mono ?_; rintro e w2 ⟨rfl, bb⟩; have S2 := Lib.hid (S1.out.below bb); have O2 := Lib.hid (O1.out.below_r bb); have P2 := Lib.hid (P1.out.below bb); clear bb)
    | (go_at_call 62; with_reducible refine (open_q n l r (S2.out.perm (List.Perm.swap _ _ _)) P2.out).mono ?_; rintro e w3 ⟨rfl, ss, oo⟩; have S3 := Lib.hid ss; have O3 := Lib.hid (O2.out.seq oo); have P3 := Lib.hid (P2.out.off oo); clear ss oo)
    | (go_at_call 51; with_reducible refine (at_st l (by simp) S3.out).mono ?_; rintro e w4 ⟨rfl, bb⟩; have S4 := Lib.hid (S3.out.below bb); have O4 := Lib.hid (O3.out.below_r bb); have P4 := Lib.hid (P3.out.below bb); clear bb)
    | (go_at_call 51; with_reducible refine (at_st r (by simp) S4.out).mono ?_; rintro e w5 ⟨rfl, bb⟩; have S5 := Lib.hid (S4.out.below bb); have O5 := Lib.hid (O4.out.below_r bb); have P5 := Lib.hid (P4.out.below bb); clear bb)
    | (go_at_call 78; with_reducible refine (fork_q a l (S5.out.perm ((List.Perm.cons _ (List.Perm.swap _ _ _)).trans (List.Perm.swap _ _ _))) P5.out NA.out NL.out HQ.out).mono ?_; rintro e w6 ⟨T1, rfl, nT1, eT1, ss, oo⟩; have S6 := Lib.hid ss; have O6 := Lib.hid (O5.out.seq oo); have P6 := Lib.hid (P5.out.off oo); clear ss oo; have NT1 := Lib.hid nT1; have ET1 := Lib.hid eT1; clear nT1 eT1)
    | (go_at_call 78; with_reducible refine (fork_q T1 r S6.out P6.out NT1.out NR.out HQ.out).mono ?_; rintro e w7 ⟨T, rfl, nT, eT, ss, oo⟩; have S7 := Lib.hid ss; have O7 := Lib.hid (O6.out.seq oo); have P7 := Lib.hid (P6.out.off oo); clear ss oo; have NT := Lib.hid nT; have ET := Lib.hid eT; clear nT eT))
  go_ret
  exact ⟨T, rfl, NT.out, by rw [ET.out, ET1.out]; simp [Tr.el], S7.out, O7.out⟩

set_option maxHeartbeats 1000000 in
theorem bal_r2 (n m : Nat) (a l1 l2 r : TC) (h : Sq D Q S tb root (a :: .fork n (.fork m l1 l2) r :: F) w) (hup : Up S w) (hQ : Q ≤ 4000000000) (ha : a ≠ .nil) (h0 : ¬ (1 : Int) < ((a.ht : Nat) : Int) - (((Tr.fork n (.fork m l1 l2) r : TC).ht : Nat) : Int)) (h1 : ((a.ht : Nat) : Int) - (((Tr.fork n (.fork m l1 l2) r : TC).ht : Nat) : Int) < -1) (h2 : ¬ (Tr.fork m l1 l2 : TC).ht ≤ r.ht) :
    Calls Try.prog 84 #[.pointer (some ⟨tb, 0, none⟩), .int .i64 a.id, .int .i64 (Tr.fork n (.fork m l1 l2) r : TC).id] w fun e w' => ∃ T : TC, e = .returned (.int .i64 T.id) ∧ T ≠ .nil ∧ T.el Wc = (a.el Wc ++ (Tr.fork n (.fork m l1 l2) r : TC).el Wc) ∧ Sq D Q S tb root (T :: F) w' ∧ Off S w w' := by
  have ba := (h.ht hQ a (by simp)).1
  have bb := (h.ht hQ (Tr.fork n (.fork m l1 l2) r : TC) (by simp)).1
  have i1 : -400000 ≤ ((a.ht : Nat) : Int) - (((Tr.fork n (.fork m l1 l2) r : TC).ht : Nat) : Int) := by omega
  have i2 : ((a.ht : Nat) : Int) - (((Tr.fork n (.fork m l1 l2) r : TC).ht : Nat) : Int) ≤ 400000 := by omega
  have d0 : decide ((1 : Int) < ((a.ht : Nat) : Int) - (((Tr.fork n (.fork m l1 l2) r : TC).ht : Nat) : Int)) = false := decide_eq_false h0
  have d1 : decide (((a.ht : Nat) : Int) - (((Tr.fork n (.fork m l1 l2) r : TC).ht : Nat) : Int) < -1) = true := decide_eq_true h1
  have d3 : decide ((Tr.fork m l1 l2 : TC).ht ≤ r.ht) = false := decide_eq_false h2
  have NA := Lib.hid ha
  have hsw := h.perm (List.Perm.swap _ _ _)
  have NR := Lib.hid hsw.sub.2
  have NL1 := Lib.hid hsw.subl.1
  have NL2 := Lib.hid hsw.subl.2
  clear h1 h2 ha ba bb h0 hsw
  have S0 := Lib.hid h
  have O0 := Lib.hid (Off.refl S w)
  have P0 := Lib.hid hup
  have HQ := Lib.hid hQ
  clear h hup hQ
  have hfh := field_ht
  go_enter Try.func84, Try.ntmps84
  go_wp2_with (first
    | (go_at_call 51; with_reducible refine (at_st a (by simp) S0.out).mono ?_; rintro e w1 ⟨rfl, bb⟩; have S1 := Lib.hid (S0.out.below bb); have O1 := Lib.hid (O0.out.below_r bb); have P1 := Lib.hid (P0.out.below bb); clear bb)
    | (go_at_call 51; with_reducible refine (at_st (Tr.fork n (.fork m l1 l2) r : TC) (by simp) S1.out).mono ?_; rintro e w2 ⟨rfl, bb⟩; have S2 := Lib.hid (S1.out.below bb); have O2 := Lib.hid (O1.out.below_r bb); have P2 := Lib.hid (P1.out.below bb); clear bb)
    | (go_at_call 62; with_reducible refine (open_q n (Tr.fork m l1 l2 : TC) r (S2.out.perm (List.Perm.swap _ _ _)) P2.out).mono ?_; rintro e w3 ⟨rfl, ss, oo⟩; have S3 := Lib.hid ss; have O3 := Lib.hid (O2.out.seq oo); have P3 := Lib.hid (P2.out.off oo); clear ss oo)
    | (go_at_call 51; with_reducible refine (at_st (Tr.fork m l1 l2 : TC) (by simp) S3.out).mono ?_; rintro e w4 ⟨rfl, bb⟩; have S4 := Lib.hid (S3.out.below bb); have O4 := Lib.hid (O3.out.below_r bb); have P4 := Lib.hid (P3.out.below bb); clear bb)
    | (go_at_call 51; with_reducible refine (at_st r (by simp) S4.out).mono ?_; rintro e w5 ⟨rfl, bb⟩; have S5 := Lib.hid (S4.out.below bb); have O5 := Lib.hid (O4.out.below_r bb); have P5 := Lib.hid (P4.out.below bb); clear bb)
    | (go_at_call 62; with_reducible refine (open_q m l1 l2 S5.out P5.out).mono ?_; rintro e w6 ⟨rfl, ss, oo⟩; have S6 := Lib.hid ss; have O6 := Lib.hid (O5.out.seq oo); have P6 := Lib.hid (P5.out.off oo); clear ss oo)
    | (go_at_call 78; with_reducible refine (fork_q a l1 (S6.out.perm ((List.Perm.cons _ (List.Perm.cons _ (List.Perm.swap _ _ _))).trans ((List.Perm.cons _ (List.Perm.swap _ _ _)).trans (List.Perm.swap _ _ _)))) P6.out NA.out NL1.out HQ.out).mono ?_; rintro e w7 ⟨T1, rfl, nT1, eT1, ss, oo⟩; have S7 := Lib.hid ss; have O7 := Lib.hid (O6.out.seq oo); have P7 := Lib.hid (P6.out.off oo); clear ss oo; have NT1 := Lib.hid nT1; have ET1 := Lib.hid eT1; clear nT1 eT1)
    | (go_at_call 78; with_reducible refine (fork_q l2 r (S7.out.perm ((List.Perm.swap _ _ _).trans (List.Perm.cons _ (List.Perm.swap _ _ _)))) P7.out NL2.out NR.out HQ.out).mono ?_; rintro e w8 ⟨T2, rfl, nT2, eT2, ss, oo⟩; have S8 := Lib.hid ss; have O8 := Lib.hid (O7.out.seq oo); have P8 := Lib.hid (P7.out.off oo); clear ss oo; have NT2 := Lib.hid nT2; have ET2 := Lib.hid eT2; clear nT2 eT2)
    | (go_at_call 78; with_reducible refine (fork_q T1 T2 (S8.out.perm (List.Perm.swap _ _ _)) P8.out NT1.out NT2.out HQ.out).mono ?_; rintro e w9 ⟨T, rfl, nT, eT, ss, oo⟩; have S9 := Lib.hid ss; have O9 := Lib.hid (O8.out.seq oo); have P9 := Lib.hid (P8.out.off oo); clear ss oo; have NT := Lib.hid nT; have ET := Lib.hid eT; clear nT eT))
  go_ret
  exact ⟨T, rfl, NT.out, by rw [ET.out, ET1.out, ET2.out]; simp [Tr.el], S9.out, O9.out⟩
theorem balance_any (a b : TC) (h : Sq D Q S tb root (a :: b :: F) w) (hup : Up S w) (ha : a ≠ .nil) (hb : b ≠ .nil) (hQ : Q ≤ 4000000000) :
    Calls Try.prog 84 #[.pointer (some ⟨tb, 0, none⟩), .int .i64 a.id, .int .i64 b.id] w fun e w' => ∃ T : TC, e = .returned (.int .i64 T.id) ∧ T ≠ .nil ∧ T.el Wc = (a.el Wc ++ b.el Wc) ∧ Sq D Q S tb root (T :: F) w' ∧ Off S w w' := by
  have pa := Tr.In.ht_pos ha
  have pb := Tr.In.ht_pos hb
  by_cases h1 : (1 : Int) < ((a.ht : Nat) : Int) - ((b.ht : Nat) : Int)
  · obtain ⟨n, l, r, rfl⟩ := Tr.fork_of_ht (show 2 ≤ a.ht by omega)
    by_cases h2 : r.ht ≤ l.ht
    · exact bal_l1 n l r b h hup hQ hb h1 h2
    · have pl := Tr.In.ht_pos h.sub.1
      obtain ⟨m, r1, r2, rfl⟩ := Tr.fork_of_ht (show 2 ≤ r.ht by omega)
      exact bal_l2 n m l r1 r2 b h hup hQ hb h1 h2
  · by_cases h3 : ((a.ht : Nat) : Int) - ((b.ht : Nat) : Int) < -1
    · obtain ⟨n, l, r, rfl⟩ := Tr.fork_of_ht (show 2 ≤ b.ht by omega)
      by_cases h2 : l.ht ≤ r.ht
      · exact bal_r1 n a l r h hup hQ ha h1 h3 h2
      · have pr := Tr.In.ht_pos (h.perm (List.Perm.swap _ _ _)).sub.2
        obtain ⟨m, l1, l2, rfl⟩ := Tr.fork_of_ht (show 2 ≤ l.ht by omega)
        exact bal_r2 n m a l1 l2 r h hup hQ ha h1 h3 h2
    · exact bal_flat a b h hup hQ ha hb h1 h3
end
end Go.Proofs.Yteodfbkfpboehaa
