
import Derived.Test.YteodfbkfpboehaaDV
/- DX: a thing looked for by how much stands ahead of it -/
namespace Go.Proofs.Yteodfbkfpboehaa
open Go.RowKit
set_option linter.unusedVariables false
set_option maxRecDepth 100000

/-- More than i elements. -/
def rA (i : Int) (x : List Ck) : Bool := decide (i < (Wc.ln x : Nat))
/-- More than i newlines. -/
def mk0 (l : List Ck) : Nat := 0
theorem mk0_app (a b : List Ck) : mk0 (a ++ b) = mk0 a + mk0 b := rfl
theorem ex_load_row {P : Program} {op : Oper} {ev : Operand → Value} {w : World} (ty : TypeId) (x : Operand) (ho : op.op = .load ty x)
    (g : Nat) (hx : ev x = .pointer (some ⟨g, 0, none⟩)) (t : TypeId) (cs : Array Value) (fr : Nat × Nat) (d : TypeDesc) (hg : w.heap[g]? = some (.cells cs t fr))
    (hu : P.underlying ty = some d) (hd : (match d with | .struct _ | .array _ _ => true | _ => false) = true) (hi : (P.info? ty).map (·.size) = some cs.size) : (execOp ev op).run P w = .ok (.value (.agg cs)) w := by
  unfold execOp
  simp only [ho, hx, Instr.loadAt, Instr.sureAddr, Sem.run_bind, Sem.run_pure, Result.andThen_ok, run_loadVar_row w g t ty cs fr d hg hu hd hi]
theorem nd_range {b : Nat} {t : TypeId} {M : Nd} {w : World} (h : Cb b t (ndc M) w) : w.rangeAt b 2 [.int .i64 M.len, .int .i64 M.marks] := fun j v hj => by
  match j, hj with
  | 0, hj => obtain rfl : Value.int .i64 M.len = v := by simpa using hj
             exact h.cell 2
  | 1, hj => obtain rfl : Value.int .i64 M.marks = v := by simpa using hj
             exact h.cell 3
  | j + 2, hj => simp at hj
theorem results_x_z {fn : Func} {W : World} {a b : Nat} {p q : Tmp} {xs : Array Value} {u v : Value} (hr : fn.results = #[.cell p 61, .cell q 74]) (hx : xs.size = 2) (ha : Cb a 61 xs W) (hb : Cb b 74 #[u, v] W) (tm : Array Value) (h4 : tm.getD p undef = .pointer (some ⟨a, 0, none⟩)) (h5 : tm.getD q undef = .pointer (some ⟨b, 0, none⟩)) :
    (results fn tm).run Try.prog W = .ok (.tuple #[.agg xs, .agg #[u, v]]) W := by
  have r4 := run_loadVar_row (P := Try.prog) W a _ 61 xs _ _ ha Try.underlying61 rfl (xinfo hx)
  have r5 := run_loadVar_row (P := Try.prog) W b _ 74 #[u, v] _ _ hb Try.underlying74 rfl (zinfo u v)
  have h4' : tm[p]?.getD undef = .pointer (some ⟨a, 0, none⟩) := by simpa using h4
  have h5' : tm[q]?.getD undef = .pointer (some ⟨b, 0, none⟩) := by simpa using h5
  simp [results, hr, h4', h5', asAddr, r4, r5]
theorem cnt_zero {α : Type} {l : List (Option α)} (h : cnt l = 0) (i : Nat) : l.getD i none = none := by
  rw [List.getD_eq_getElem?_getD]
  cases hg : l[i]? with
  | none => rfl
  | some o =>
    have hm := List.mem_of_getElem? hg
    have := (List.countP_eq_zero.1 h) o hm
    cases o with
    | none => rfl
    | some x => simp at this
/-- What a node has that is no fork. -/
theorem no_fork {A : ArS Nd} {C : ArS Ck} {T : TC} (h : T.In Wc A C) (h0 : T = .nil → ∀ i, C.has i = false) :
    (∃ n l r, T = .fork n l r) ∨ (decide ((1 : Int) < (T.nd Wc).height) = false ∧ ∃ x : Ck, T.el Wc = x.l ∧ ((∃ k : Nat, (T.nd Wc).thing = (k : Nat) ∧ C.at_ k = some x) ∨ (C.has (T.nd Wc).thing = false ∧ x = ck0))) := by
  cases T with
  | nil => exact .inr ⟨rfl, ck0, rfl, .inr ⟨h0 rfl _, rfl⟩⟩
  | leaf n t x => exact .inr ⟨rfl, x, rfl, .inl ⟨t, rfl, h.2.1⟩⟩
  | fork n l r => exact .inl ⟨n, l, r, rfl⟩
section
variable {Q : Nat} {D : Sv → Prop} {S : Nat → Prop} {tb : Nat} {w w' W : World}
theorem clA_any (i : Int) (cb : Nat) (a b : Nat) (hc : Cb cb 3 #[.int .i64 i] w) : Calls Try.prog 38 #[.agg #[.int .i64 (a : Nat), .int .i64 (b : Nat)], .pointer (some ⟨cb, 0, none⟩)] w fun e w' => e = .returned (.bool (decide (i < (a : Nat)))) ∧ Below w.heap.size w w' := by
  have h1 := hc.alloc (.cells #[.int .i64 (a : Nat), .int .i64 (b : Nat)] 74)
  have hb := (Below.refl w.heap.size w).alloc (Nat.le_refl _) (.cells #[.int .i64 (a : Nat), .int .i64 (b : Nat)] 74)
  have c0 := h1.cell 0
  have HB := Lib.hid hb
  clear h1 hb hc
  go_enter Try.func38, Try.ntmps38
  go_wp2
  go_ret
  exact ⟨rfl, HB.out⟩
set_option maxHeartbeats 2000000 in
theorem seekA_any (R : TC) (i : Int) (cb : Nat) (h : Sq D Q S tb R.id [R] w) (hQ : Q ≤ 4000000000) (hc : Cb cb 3 #[.int .i64 i] w) :
    Calls Try.prog 37 #[.pointer (some ⟨tb, 0, none⟩), .func (.func 38) #[] #[.pointer (some ⟨cb, 0, none⟩)]] w fun e w' => ∃ (x : Ck) (pre post : List Ck), e = .returned (.tuple #[cvs x, .agg #[.int .i64 (Wc.ln pre : Nat), .int .i64 (mk0 pre : Nat)]]) ∧ R.el Wc = pre ++ (x.l ++ post) ∧ (pre = [] ∨ rA i pre = false) ∧ (post = [] ∨ rA i (pre ++ x.l) = true) ∧ Below w.heap.size w w' := by
  have hlen := (h.ht hQ R List.mem_cons_self).2
  obtain ⟨⟨an, cn, U, V, A, C, h1, h2⟩, h3⟩ := h
  have hT := h2.inn R List.mem_cons_self
  have h0 : R = .nil → ∀ i, C.has i = false := fun e i => by
    have hc := h2.cT
    rw [e] at hc
    have hc : cnt C.ps = 0 := hc
    unfold ArS.has ArS.at_
    rw [cnt_zero hc]
    simp
  have eg : ∀ args w, (callFunc 38 args).run Try.prog w = .ok (.enter 38 args) w := enters_of Try.func38 (by kernel_rfl) rfl
  have HAT := Lib.hid (fun (w' : World) (hb : Below w.heap.size w w') (T' : TC) (hT' : T'.In Wc A C) => at_any T' (h1.below hb) hT')
  have HTH := Lib.hid (fun (w' : World) (hb : Below w.heap.size w w') (M : Nd) (x : Ck) (hx : (∃ k : Nat, M.thing = (k : Nat) ∧ C.at_ k = some x) ∨ (C.has M.thing = false ∧ x = ck0)) => thing_any (h1.below hb) M x hx)
  have HCL := Lib.hid (fun (w' : World) (hb : Below w.heap.size w w') (a b : Nat) => clA_any i cb a b (hc.below hb))
  have H0 := Lib.hid h0
  have HLEN := Lib.hid hlen
  have HROOT := Lib.hid (fun (w' : World) (hb : Below w.heap.size w w') => (h1.below hb).cells.2.2.2.2.2.1)
  obtain ⟨M0, hM0⟩ : ∃ M, R.nd Wc = M := ⟨_, rfl⟩
  have HA0 := Lib.hid (fun w' hb => HAT.out w' hb R hT)
  rw [hM0] at HA0
  have HX : Hid (∃ (T' : TC) (pre post : List Ck), T'.In Wc A C ∧ (T' = .nil → R = .nil) ∧ M0 = T'.nd Wc ∧ R.el Wc = pre ++ (T'.el Wc ++ post) ∧ (pre = [] ∨ rA i pre = false) ∧ (post = [] ∨ rA i (pre ++ T'.el Wc) = true) ∧ pre = []) := Lib.hid ⟨R, [], [], hT, id, hM0.symm, by simp, .inl rfl, .inl rfl, rfl⟩
  clear h1 h2 h3 hT h0 hc hlen hM0
  go_enter Try.func37, Try.ntmps37
  go_upto_region 1 with fail
  refine with_worldT (fun W => Cb w.heap.size 61 czr W ∧ Cb (w.heap.size + 1) 74 #[.int .i64 ((Wc.ln ([] : List Ck) : Nat) : Int), .int .i64 ((mk0 ([] : List Ck) : Nat) : Int)] W ∧ Below w.heap.size w W) ⟨(cb_new w _ _).alloc _, by have := cb_new (w.alloc (.cells czr 61)) 74 #[.int .i64 0, .int .i64 0]; rw [World.size_alloc] at this; exact this, ((Below.refl _ w).alloc (Nat.le_refl _) _).alloc (by simp) _⟩ fun W0 hW0 => ?_
  have R0 := Lib.hid (And.intro hW0.1 hW0.2.1)
  have B0 := Lib.hid hW0.2.2
  have c5 := HROOT.out _ hW0.2.2
  clear hW0
  go_wp2_with (first
    | (go_at_call 51; refine (HA0.out _ B0.out).mono ?_; rintro e w1 ⟨rfl, b1⟩; have R1 := Lib.hid (And.intro ((R0.out.1.below b1).alloc (.cells ndz 102)) ((R0.out.2.below b1).alloc (.cells ndz 102))); have B1 := Lib.hid ((below_add B0.out b1 B0.out.size).alloc (by have := B0.out.size; have := b1.size; omega) (.cells ndz 102)); have V1 := Lib.hid (cb_new w1 102 ndz); have Z1 := Lib.hid (show w.heap.size + 1 < w1.heap.size from Nat.lt_of_lt_of_le R0.out.2.lt b1.size); clear b1 c5)
    | (refine wpList_store_row rfl 102 (.tmp 6) (.tmp 14) rfl w1.heap.size (ndc M0) rfl rfl _ _ V1.out (ninfo M0) rfl (none_n M0) ?_))
  obtain ⟨b6, hb6⟩ : ∃ b6, w1.heap.size = b6 := ⟨_, rfl⟩
  have ZB : Hid (w.heap.size + 1 < b6) := Lib.hid (hb6 ▸ Z1.out)
  have W2 := Lib.hid (show Cb w1.heap.size 102 (ndc M0) ((w1.alloc (.cells ndz 102)).setRow w1.heap.size (ndc M0)) ∧ Cb w.heap.size 61 czr ((w1.alloc (.cells ndz 102)).setRow w1.heap.size (ndc M0)) ∧ Cb (w.heap.size + 1) 74 #[.int .i64 ((Wc.ln ([] : List Ck) : Nat) : Int), .int .i64 ((mk0 ([] : List Ck) : Nat) : Int)] ((w1.alloc (.cells ndz 102)).setRow w1.heap.size (ndc M0)) ∧ Below w.heap.size w ((w1.alloc (.cells ndz 102)).setRow w1.heap.size (ndc M0)) from
    ⟨V1.out.set _, R1.out.1.other (by have := Z1.out; omega) _, R1.out.2.other (by have := Z1.out; omega) _, below_row B1.out (by have := Z1.out; omega)⟩)
  clear V1 R1 B1 Z1 B0 R0 HA0
  refine with_worldT (fun W => Cb w1.heap.size 102 (ndc M0) W ∧ Cb w.heap.size 61 czr W ∧ Cb (w.heap.size + 1) 74 #[.int .i64 ((Wc.ln ([] : List Ck) : Nat) : Int), .int .i64 ((mk0 ([] : List Ck) : Nat) : Int)] W ∧ Below w.heap.size w W) W2.out fun W1 hW1 => ?_
  rw [hb6] at hW1
  refine Hid.out ?_
  rw [hb6]
  refine Lib.hid ?_
  have K0 := Lib.hid hW1
  clear W2 hW1 hb6
  go_frame
  go_loopw [16] (fun _ wr => Hid (∃ (T' : TC) (M : Nd) (pre post : List Ck), T'.In Wc A C ∧ (T' = .nil → R = .nil) ∧ M = T'.nd Wc ∧ R.el Wc = pre ++ (T'.el Wc ++ post) ∧ (pre = [] ∨ rA i pre = false) ∧ (post = [] ∨ rA i (pre ++ T'.el Wc) = true) ∧ Cb b6 102 (ndc M) wr ∧ Cb w.heap.size 61 czr wr ∧ Cb (w.heap.size + 1) 74 #[.int .i64 (Wc.ln pre : Nat), .int .i64 (mk0 pre : Nat)] wr ∧ Below w.heap.size w wr)) (fun _ wr => htAt b6 wr)
  case atStart =>
    obtain ⟨T', pre, post, q1, q2, q3, q4, q5, q6, rfl⟩ := HX.out
    exact Lib.hid ⟨T', M0, [], post, q1, q2, q3, q4, q5, q6, K0.out.1, K0.out.2.1, K0.out.2.2.1, K0.out.2.2.2⟩
  case round =>
    rename_i wr
    have H := hrel
    clear hrel
    obtain ⟨T', M, pre, post, hi, hz, hM, he, hp, hq, k6, k4, k5, kb⟩ := H.out
    have K6 := Lib.hid k6
    have K4 := Lib.hid k4
    have K5 := Lib.hid k5
    have KB := Lib.hid kb
    have HME := Lib.hid (htAt_cb k6)
    clear k6 k4 k5 kb H HX K0
    rcases no_fork hi (fun e => H0.out (hz e)) with ⟨n, l, r, rfl⟩ | ⟨hd, x, hx, hth⟩
    · have hh : 2 ≤ (Tr.fork n l r).ht := hi.fork_ht
      have hd : decide ((1 : Int) < M.height) = true := by rw [hM, Tr.nd_height]; exact decide_eq_true (by omega)
      have HF := Lib.hid (fun w => isfork_any M w)
      rw [hd] at HF
      have HIL : Hid (M.left = l.id) := Lib.hid (by rw [hM]; rfl)
      have HIR : Hid (M.right = r.id) := Lib.hid (by rw [hM]; rfl)
      obtain ⟨ML, hML⟩ : ∃ M2, l.nd Wc = M2 := ⟨_, rfl⟩
      obtain ⟨MR, hMR⟩ : ∃ M2, r.nd Wc = M2 := ⟨_, rfl⟩
      have HAL := Lib.hid (fun w' hb => HAT.out w' hb l hi.2.2.2.1)
      have HAR := Lib.hid (fun w' hb => HAT.out w' hb r hi.2.2.2.2)
      rw [hML] at HAL
      rw [hMR] at HAR
      have el1 : ML.len = (Wc.ln (l.el Wc) : Nat) := by rw [← hML, Tr.nd_len]
      have el2 : ML.marks = (mk0 (l.el Wc) : Nat) := by rw [← hML, Tr.nd_marks]; rfl
      have EL := Lib.hid (And.intro el1 el2)
      have HLT : Hid (ML.height.toNat < M.height.toNat ∧ MR.height.toNat < M.height.toNat) := Lib.hid (by rw [hM, ← hML, ← hMR, Tr.nd_height, Tr.nd_height, Tr.nd_height]; simp only [Tr.ht]; omega)
      have hle : Wc.ln pre + Wc.ln (l.el Wc) ≤ 4000000000 := by
        have := HLEN.out.1
        rw [he] at this
        simp only [Tr.el, Way.lnA] at this
        omega
      have hnl : mk0 pre + mk0 (l.el Wc) ≤ 400000 := by
        exact Nat.zero_le _
      have HPL := Lib.hid (fun w => plus_any (Wc.ln pre) (mk0 pre) (Wc.ln (l.el Wc)) (mk0 (l.el Wc)) (by omega) (by omega) w)
      rw [← Wc.lnA, ← mk0_app] at HPL
      have HCQ := Lib.hid (fun w' hb => HCL.out w' hb (Wc.ln (pre ++ l.el Wc)) (mk0 (pre ++ l.el Wc)))
      obtain ⟨s1, hs1⟩ : ∃ s, Wc.ln (pre ++ l.el Wc) = s := ⟨_, rfl⟩
      obtain ⟨s2, hs2⟩ : ∃ s, mk0 (pre ++ l.el Wc) = s := ⟨_, rfl⟩
      rw [hs1, hs2] at HPL HCQ
      have HS := Lib.hid (And.intro hs1 hs2)
      have HE := Lib.hid (And.intro he (And.intro hp hq))
      have HI := Lib.hid hi
      have HML := Lib.hid hML
      have HMR := Lib.hid hMR
      have HMM := Lib.hid hM
      clear hle hnl hs1 hs2 hML hMR hM hd hh he hp hq hi el1 el2 HAT HTH HCL
      cases hr : rA i (pre ++ l.el Wc) with
      | true =>
        have HRR := Lib.hid hr
        have hr2 : decide (i < (((s1) : Nat) : Int)) = true := by rw [← HS.out.1]; exact hr
        rw [hr2] at HCQ
        clear hr hr2
        go_wp2_with (first
          | (refine wpList_load_roww 102 (.tmp 6) rfl b6 rfl (by rfl) _ _ _ _ K6.out Try.underlying102 rfl (ninfo M) ?_)
          | (go_at_call 57; refine (HF.out _).mono ?_; clear HF; rintro e w3 ⟨rfl, b3⟩; have K63 := Lib.hid (K6.out.below b3); have K43 := Lib.hid (K4.out.below b3); have K53 := Lib.hid (K5.out.below b3); have KB3 := Lib.hid (below_add KB.out b3 KB.out.size); clear b3; have c4 : w3.cell? ⟨b6, 4, none⟩ = some (Value.int .i64 l.id) := by have := K63.out.cell 4; rw [← HIL.out]; exact this)
          | (go_at_call 51; refine (HAL.out _ KB3.out).mono ?_; clear HAL; rintro e w4 ⟨rfl, b4⟩; clear c4; have K64 := Lib.hid ((K63.out.below b4).alloc (.cells ndz 102)); have K44 := Lib.hid ((K43.out.below b4).alloc (.cells ndz 102)); have K54 := Lib.hid ((K53.out.below b4).alloc (.cells ndz 102)); have KB4 := Lib.hid ((below_add KB3.out b4 KB3.out.size).alloc (by have := KB3.out.size; have := b4.size; omega) (.cells ndz 102)); have V7 := Lib.hid (cb_new w4 102 ndz); have Z7 := Lib.hid (show b6 < w4.heap.size from Nat.lt_of_lt_of_le K63.out.lt b4.size); clear b4)
          | (refine wpList_store_row rfl 102 (.tmp 7) (.tmp 20) rfl w4.heap.size (ndc ML) rfl rfl _ _ V7.out (ninfo ML) rfl (none_n ML) ?_)
          | (refine wpList_load_roww 74 (.tmp 5) rfl (w.heap.size + 1) rfl (by rfl) _ _ _ _ (K54.out.other (c := w4.heap.size) (by have := ZB.out; have := Z7.out; omega) (ndc ML)) Try.underlying74 rfl (zinfo _ _) ?_)
          | (refine wpList_load_midw (by rfl) 74 (.tmp 22) rfl w4.heap.size 2 rfl [.int .i64 (Wc.ln (l.el Wc) : Nat), .int .i64 (mk0 (l.el Wc) : Nat)] _ (by have hr := nd_range (V7.out.set (ndc ML)); rw [EL.out.1, EL.out.2] at hr; exact hr) Try.underlying74 rfl (zinfo (.int .i64 0) (.int .i64 0)) ?_)
          | (go_at_call 58; refine (HPL.out _).mono ?_; clear HPL; rintro e w5 ⟨rfl, b5⟩; have K65 := Lib.hid (((K64.out.other (c := w4.heap.size) (by have := Z7.out; omega) (ndc ML)).below b5).alloc (.cells #[.int .i64 0, .int .i64 0] 74)); have K45 := Lib.hid (((K44.out.other (c := w4.heap.size) (by have := ZB.out; have := Z7.out; omega) (ndc ML)).below b5).alloc (.cells #[.int .i64 0, .int .i64 0] 74)); have K55 := Lib.hid (((K54.out.other (c := w4.heap.size) (by have := ZB.out; have := Z7.out; omega) (ndc ML)).below b5).alloc (.cells #[.int .i64 0, .int .i64 0] 74)); have K75 := Lib.hid (((V7.out.set (ndc ML)).below b5).alloc (.cells #[.int .i64 0, .int .i64 0] 74)); have KC5 := Lib.hid (below_add (below_row (cs := ndc ML) KB4.out (show w.heap.size ≤ w4.heap.size by have := ZB.out; have := Z7.out; omega)) b5 (below_row (cs := ndc ML) KB4.out (show w.heap.size ≤ w4.heap.size by have := ZB.out; have := Z7.out; omega)).size); have KB5 := Lib.hid (KC5.out.alloc KC5.out.size (.cells #[.int .i64 0, .int .i64 0] 74)); have V8 := Lib.hid (cb_new w5 74 #[.int .i64 0, .int .i64 0]); have Z8 := Lib.hid (show w4.heap.size < w5.heap.size from Nat.lt_of_lt_of_le (V7.out.set (ndc ML)).lt b5.size); clear b5)
          | (refine wpList_store_row rfl 74 (.tmp 8) (.tmp 24) rfl w5.heap.size #[.int .i64 (s1 : Nat), .int .i64 (s2 : Nat)] rfl rfl _ _ V8.out (zinfo _ _) rfl (zone2 _ _) ?_)
          | (refine wpList_load_roww 74 (.tmp 8) rfl w5.heap.size rfl (by rfl) _ _ _ _ (V8.out.set #[.int .i64 (s1 : Nat), .int .i64 (s2 : Nat)]) Try.underlying74 rfl (zinfo _ _) ?_)
          | (go_at_call 38; refine (HCQ.out _ (below_row KB5.out (by have := ZB.out; have := Z7.out; have := Z8.out; omega))).mono ?_; clear HCQ; rintro e w6 ⟨rfl, b6'⟩; have K66 := Lib.hid ((K65.out.other (c := w5.heap.size) (by have := Z7.out; have := Z8.out; omega) #[.int .i64 (s1 : Nat), .int .i64 (s2 : Nat)]).below b6'); have K46 := Lib.hid ((K45.out.other (c := w5.heap.size) (by have := ZB.out; have := Z7.out; have := Z8.out; omega) #[.int .i64 (s1 : Nat), .int .i64 (s2 : Nat)]).below b6'); have K56 := Lib.hid ((K55.out.other (c := w5.heap.size) (by have := ZB.out; have := Z7.out; have := Z8.out; omega) #[.int .i64 (s1 : Nat), .int .i64 (s2 : Nat)]).below b6'); have K76 := Lib.hid ((K75.out.other (c := w5.heap.size) (by have := Z8.out; omega) #[.int .i64 (s1 : Nat), .int .i64 (s2 : Nat)]).below b6'); have K86 := Lib.hid ((V8.out.set #[.int .i64 (s1 : Nat), .int .i64 (s2 : Nat)]).below b6'); have KB6 := Lib.hid (below_add (below_row (cs := #[.int .i64 (s1 : Nat), .int .i64 (s2 : Nat)]) KB5.out (show w.heap.size ≤ w5.heap.size by have := ZB.out; have := Z7.out; have := Z8.out; omega)) b6' (below_row (cs := #[.int .i64 (s1 : Nat), .int .i64 (s2 : Nat)]) KB5.out (show w.heap.size ≤ w5.heap.size by have := ZB.out; have := Z7.out; have := Z8.out; omega)).size); clear b6')
          | (refine wpList_load_roww 102 (.tmp 7) rfl w4.heap.size rfl (by rfl) _ _ _ _ K76.out Try.underlying102 rfl (ninfo ML) ?_)
          | (refine wpList_store_row rfl 102 (.tmp 6) (.tmp 28) rfl b6 (ndc ML) rfl rfl _ _ K66.out (ninfo ML) rfl (none_n ML) ?_))
        go_frame
        go_roundw
        case rel =>
          exact Lib.hid ⟨l, ML, pre, r.el Wc ++ post, HI.out.2.2.2.1, fun e => absurd e HI.out.2.1, HML.out.symm, by rw [HE.out.1]; simp only [Tr.el, List.append_assoc], HE.out.2.1, .inr HRR.out, K66.out.set _, K46.out.other (by have := ZB.out; omega) _, K56.out.other (by have := ZB.out; omega) _, below_row KB6.out (by have := ZB.out; omega)⟩
        case measure =>
          rw [htAt_cb (K66.out.set (ndc ML)), HME.out]; exact HLT.out.1
      | false =>
        have HRR := Lib.hid hr
        have hr2 : decide (i < (((s1) : Nat) : Int)) = false := by rw [← HS.out.1]; exact hr
        rw [hr2] at HCQ
        clear hr hr2
        go_wp2_with (first
          | (refine wpList_load_roww 102 (.tmp 6) rfl b6 rfl (by rfl) _ _ _ _ K6.out Try.underlying102 rfl (ninfo M) ?_)
          | (go_at_call 57; refine (HF.out _).mono ?_; clear HF; rintro e w3 ⟨rfl, b3⟩; have K63 := Lib.hid (K6.out.below b3); have K43 := Lib.hid (K4.out.below b3); have K53 := Lib.hid (K5.out.below b3); have KB3 := Lib.hid (below_add KB.out b3 KB.out.size); clear b3; have c4 : w3.cell? ⟨b6, 4, none⟩ = some (Value.int .i64 l.id) := by have := K63.out.cell 4; rw [← HIL.out]; exact this)
          | (go_at_call 51; refine (HAL.out _ KB3.out).mono ?_; clear HAL; rintro e w4 ⟨rfl, b4⟩; clear c4; have K64 := Lib.hid ((K63.out.below b4).alloc (.cells ndz 102)); have K44 := Lib.hid ((K43.out.below b4).alloc (.cells ndz 102)); have K54 := Lib.hid ((K53.out.below b4).alloc (.cells ndz 102)); have KB4 := Lib.hid ((below_add KB3.out b4 KB3.out.size).alloc (by have := KB3.out.size; have := b4.size; omega) (.cells ndz 102)); have V7 := Lib.hid (cb_new w4 102 ndz); have Z7 := Lib.hid (show b6 < w4.heap.size from Nat.lt_of_lt_of_le K63.out.lt b4.size); clear b4)
          | (refine wpList_store_row rfl 102 (.tmp 7) (.tmp 20) rfl w4.heap.size (ndc ML) rfl rfl _ _ V7.out (ninfo ML) rfl (none_n ML) ?_)
          | (refine wpList_load_roww 74 (.tmp 5) rfl (w.heap.size + 1) rfl (by rfl) _ _ _ _ (K54.out.other (c := w4.heap.size) (by have := ZB.out; have := Z7.out; omega) (ndc ML)) Try.underlying74 rfl (zinfo _ _) ?_)
          | (refine wpList_load_midw (by rfl) 74 (.tmp 22) rfl w4.heap.size 2 rfl [.int .i64 (Wc.ln (l.el Wc) : Nat), .int .i64 (mk0 (l.el Wc) : Nat)] _ (by have hr := nd_range (V7.out.set (ndc ML)); rw [EL.out.1, EL.out.2] at hr; exact hr) Try.underlying74 rfl (zinfo (.int .i64 0) (.int .i64 0)) ?_)
          | (go_at_call 58; refine (HPL.out _).mono ?_; clear HPL; rintro e w5 ⟨rfl, b5⟩; have K65 := Lib.hid (((K64.out.other (c := w4.heap.size) (by have := Z7.out; omega) (ndc ML)).below b5).alloc (.cells #[.int .i64 0, .int .i64 0] 74)); have K45 := Lib.hid (((K44.out.other (c := w4.heap.size) (by have := ZB.out; have := Z7.out; omega) (ndc ML)).below b5).alloc (.cells #[.int .i64 0, .int .i64 0] 74)); have K55 := Lib.hid (((K54.out.other (c := w4.heap.size) (by have := ZB.out; have := Z7.out; omega) (ndc ML)).below b5).alloc (.cells #[.int .i64 0, .int .i64 0] 74)); have K75 := Lib.hid (((V7.out.set (ndc ML)).below b5).alloc (.cells #[.int .i64 0, .int .i64 0] 74)); have KC5 := Lib.hid (below_add (below_row (cs := ndc ML) KB4.out (show w.heap.size ≤ w4.heap.size by have := ZB.out; have := Z7.out; omega)) b5 (below_row (cs := ndc ML) KB4.out (show w.heap.size ≤ w4.heap.size by have := ZB.out; have := Z7.out; omega)).size); have KB5 := Lib.hid (KC5.out.alloc KC5.out.size (.cells #[.int .i64 0, .int .i64 0] 74)); have V8 := Lib.hid (cb_new w5 74 #[.int .i64 0, .int .i64 0]); have Z8 := Lib.hid (show w4.heap.size < w5.heap.size from Nat.lt_of_lt_of_le (V7.out.set (ndc ML)).lt b5.size); clear b5)
          | (refine wpList_store_row rfl 74 (.tmp 8) (.tmp 24) rfl w5.heap.size #[.int .i64 (s1 : Nat), .int .i64 (s2 : Nat)] rfl rfl _ _ V8.out (zinfo _ _) rfl (zone2 _ _) ?_)
          | (refine wpList_load_roww 74 (.tmp 8) rfl w5.heap.size rfl (by rfl) _ _ _ _ (V8.out.set #[.int .i64 (s1 : Nat), .int .i64 (s2 : Nat)]) Try.underlying74 rfl (zinfo _ _) ?_)
          | (go_at_call 38; refine (HCQ.out _ (below_row KB5.out (by have := ZB.out; have := Z7.out; have := Z8.out; omega))).mono ?_; clear HCQ; rintro e w6 ⟨rfl, b6'⟩; have K66 := Lib.hid ((K65.out.other (c := w5.heap.size) (by have := Z7.out; have := Z8.out; omega) #[.int .i64 (s1 : Nat), .int .i64 (s2 : Nat)]).below b6'); have K46 := Lib.hid ((K45.out.other (c := w5.heap.size) (by have := ZB.out; have := Z7.out; have := Z8.out; omega) #[.int .i64 (s1 : Nat), .int .i64 (s2 : Nat)]).below b6'); have K56 := Lib.hid ((K55.out.other (c := w5.heap.size) (by have := ZB.out; have := Z7.out; have := Z8.out; omega) #[.int .i64 (s1 : Nat), .int .i64 (s2 : Nat)]).below b6'); have K76 := Lib.hid ((K75.out.other (c := w5.heap.size) (by have := Z8.out; omega) #[.int .i64 (s1 : Nat), .int .i64 (s2 : Nat)]).below b6'); have K86 := Lib.hid ((V8.out.set #[.int .i64 (s1 : Nat), .int .i64 (s2 : Nat)]).below b6'); have KB6 := Lib.hid (below_add (below_row (cs := #[.int .i64 (s1 : Nat), .int .i64 (s2 : Nat)]) KB5.out (show w.heap.size ≤ w5.heap.size by have := ZB.out; have := Z7.out; have := Z8.out; omega)) b6' (below_row (cs := #[.int .i64 (s1 : Nat), .int .i64 (s2 : Nat)]) KB5.out (show w.heap.size ≤ w5.heap.size by have := ZB.out; have := Z7.out; have := Z8.out; omega)).size); clear b6')
          | (refine wpList_load_roww 74 (.tmp 8) rfl w5.heap.size rfl (by rfl) _ _ _ _ K86.out Try.underlying74 rfl (zinfo _ _) ?_)
          | (refine wpList_store_row rfl 74 (.tmp 5) (.tmp 29) rfl (w.heap.size + 1) #[.int .i64 (s1 : Nat), .int .i64 (s2 : Nat)] rfl rfl _ _ K56.out (zinfo _ _) rfl (zone2 _ _) ?_; refine with_worldTL (fun W => Cb b6 102 (ndc M) W ∧ Cb w.heap.size 61 czr W ∧ Cb (w.heap.size + 1) 74 #[.int .i64 (s1 : Nat), .int .i64 (s2 : Nat)] W ∧ Below w.heap.size w W) ⟨K66.out.other (by have := ZB.out; omega) _, K46.out.other (by omega) _, K56.out.set _, below_row KB6.out (by omega)⟩ fun W6 hW6 => ?_; have K6v := Lib.hid hW6.1; have K4v := Lib.hid hW6.2.1; have K5v := Lib.hid hW6.2.2.1; have KBv := Lib.hid hW6.2.2.2; have c6 : W6.cell? ⟨b6, 5, none⟩ = some (Value.int .i64 r.id) := (by have c := hW6.1.cell 5; rw [← HIR.out]; exact c); clear hW6)
          | (go_at_call 51; refine (HAR.out _ KBv.out).mono ?_; clear HAR c6; rintro e w7 ⟨rfl, b7⟩; have K67 := Lib.hid (K6v.out.below b7); have K47 := Lib.hid (K4v.out.below b7); have K57 := Lib.hid (K5v.out.below b7); have KB7 := Lib.hid (below_add KBv.out b7 KBv.out.size); clear b7)
          | (refine wpList_store_row rfl 102 (.tmp 6) (.tmp 33) rfl b6 (ndc MR) rfl rfl _ _ K67.out (ninfo MR) rfl (none_n MR) ?_))
        go_frame
        go_roundw
        case rel =>
          refine Lib.hid ⟨r, MR, pre ++ l.el Wc, post, HI.out.2.2.2.2, fun e => absurd e HI.out.2.2.1, HMR.out.symm, by rw [HE.out.1]; simp only [Tr.el, List.append_assoc], .inr HRR.out, ?_, K67.out.set _, K47.out.other (by have := ZB.out; omega) _, (by rw [HS.out.1, HS.out.2]; exact K57.out.other (by have := ZB.out; omega) _), below_row KB7.out (by have := ZB.out; omega)⟩
          have hq := HE.out.2.2
          simp only [Tr.el, ← List.append_assoc] at hq
          exact hq
        case measure =>
          rw [htAt_cb (K67.out.set (ndc MR)), HME.out]; exact HLT.out.2
    · have HF := Lib.hid (fun w => isfork_any M w)
      rw [hM, hd, ← hM] at HF
      rw [← hM] at hth
      have HTM := Lib.hid (fun w' hb => HTH.out w' hb M x hth)
      have SX := Lib.hid (xc_size x)
      have OX := Lib.hid (krow_one x)
      rw [hx] at he hq
      have HE := Lib.hid (And.intro he (And.intro hp hq))
      unfold cvs at HTM
      obtain ⟨cx, hcx⟩ : ∃ cx, krow x = cx := ⟨_, rfl⟩
      rw [hcx] at HTM SX OX
      have HCX := Lib.hid hcx
      clear hi hz hM he hp hq hd hx hth hcx HME HAT HTH HCL
      go_wp2_with (first
        | (refine wpList_load_roww 102 (.tmp 6) rfl b6 rfl (by rfl) _ _ _ _ K6.out Try.underlying102 rfl (ninfo M) ?_)
        | (go_at_call 57; refine (HF.out _).mono ?_; clear HF; rintro e w3 ⟨rfl, b3⟩; have K63 := Lib.hid (K6.out.below b3); have K43 := Lib.hid (K4.out.below b3); have K53 := Lib.hid (K5.out.below b3); have KB3 := Lib.hid (below_add KB.out b3 KB.out.size); clear b3))
      have K_0 := Lib.hid (show Cb b6 102 (ndc M) w3.drew ∧ Cb (w.heap.size + 1) 74 #[.int .i64 (Wc.ln pre : Nat), .int .i64 (mk0 pre : Nat)] w3.drew from ⟨K63.out.below (below_drew _), K53.out.below (below_drew _)⟩)
      have R_0 := Lib.hid (K43.out.below (below_drew _))
      have B_0 := Lib.hid KB3.out.drew
      refine h_start (S := fun W => Cb b6 102 (ndc M) W ∧ Cb (w.heap.size + 1) 74 #[.int .i64 (Wc.ln pre : Nat), .int .i64 (mk0 pre : Nat)] W) (by kernel_rfl) ?_
      refine h_val (i := 0) (v := .pointer (some ⟨tb, 0, none⟩)) rfl (by kernel_rfl) (by kernel_rfl) (by kernel_rfl) (fun _ _ _ h => h) (by rfl) (fun wz hS => ?_) K_0.out ?_
      · skip
        go_simp
      go_frame
      refine h_val (i := 1) (v := .agg (ndc M)) rfl (by kernel_rfl) (by kernel_rfl) (by kernel_rfl) (fun _ _ _ h => h) (by rfl) (fun wz hS => ?_) K_0.out ?_
      · exact ex_load_row 102 (.tmp 6) rfl b6 rfl _ (ndc M) _ _ hS.1 Try.underlying102 rfl (ninfo M)
      go_frame
      refine h_val (i := 3) (v := .agg #[.int .i64 (Wc.ln pre : Nat), .int .i64 (mk0 pre : Nat)]) rfl (by kernel_rfl) (by kernel_rfl) (by kernel_rfl) (fun _ _ _ h => h) (by rfl) (fun wz hS => ?_) K_0.out ?_
      · exact ex_load_row 74 (.tmp 5) rfl (w.heap.size + 1) rfl _ _ _ _ hS.2 Try.underlying74 rfl (zinfo _ _)
      go_frame
      refine h_all1 (i := 2) (by kernel_rfl) ?_
      refine o_call (f := 59) (args := #[.pointer (some ⟨tb, 0, none⟩), ndv M]) rfl (by rfl) (by go_simp) ?_
      refine (HTM.out _ B_0.out).mono ?_
      rintro e w5 ⟨rfl, b5⟩
      have K_1 := Lib.hid (And.intro (K_0.out.1.below b5) (K_0.out.2.below b5))
      have R_1 := Lib.hid (R_0.out.below b5)
      have B_1 := Lib.hid (below_add B_0.out b5 B_0.out.size)
      clear b5
      refine ⟨_, rfl, K_1.out, ?_⟩
      go_frame
      refine h_all1 (i := 4) (by kernel_rfl) ?_
      refine o_step rfl (by rfl) ?_
      refine wp_store_row 61 (.tmp 4) (.tmp 36) rfl w.heap.size cx rfl rfl _ _ R_1.out (xinfo SX.out) (by rw [SX.out]; exact xz_size) OX.out ?_
      have K_2 := Lib.hid (And.intro (K_1.out.1.other (c := w.heap.size) (by have := ZB.out; omega) cx) (K_1.out.2.other (c := w.heap.size) (by omega) cx))
      have R_2 := Lib.hid (R_1.out.set cx)
      have B_2 := Lib.hid (below_row (cs := cx) B_1.out (Nat.le_refl _))
      refine ⟨K_2.out, ?_⟩
      go_frame
      refine h_all1 (i := 5) (by kernel_rfl) ?_
      refine o_step rfl (by rfl) ?_
      refine wp_store_row 74 (.tmp 5) (.tmp 37) rfl (w.heap.size + 1) #[.int .i64 (Wc.ln pre : Nat), .int .i64 (mk0 pre : Nat)] rfl rfl _ _ K_2.out.2 (zinfo _ _) rfl (zone2 _ _) ?_
      have K_3 := Lib.hid (And.intro (K_2.out.1.other (c := w.heap.size + 1) (by have := ZB.out; omega) #[.int .i64 (Wc.ln pre : Nat), .int .i64 (mk0 pre : Nat)]) (K_2.out.2.set #[.int .i64 (Wc.ln pre : Nat), .int .i64 (mk0 pre : Nat)]))
      have R_3 := Lib.hid (R_2.out.other (c := w.heap.size + 1) (by omega) #[.int .i64 (Wc.ln pre : Nat), .int .i64 (mk0 pre : Nat)])
      have B_3 := Lib.hid (below_row (cs := #[.int .i64 (Wc.ln pre : Nat), .int .i64 (mk0 pre : Nat)]) B_2.out (show w.heap.size ≤ w.heap.size + 1 by omega))
      refine ⟨K_3.out, ?_⟩
      go_frame
      refine h_done (by kernel_rfl) ?_
      go_wp2
      exact bodyPost_ret (results_x_z Try.results37 SX.out R_3.out K_3.out.2 _ rfl rfl) rfl ⟨x, pre, post, by unfold cvs; rw [HCX.out], HE.out.1, HE.out.2.1, HE.out.2.2, B_3.out⟩

end
end Go.Proofs.Yteodfbkfpboehaa
