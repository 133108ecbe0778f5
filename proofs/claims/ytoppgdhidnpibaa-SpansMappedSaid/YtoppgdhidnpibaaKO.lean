
import Derived.Test.YtoppgdhidnpibaaKN
/- KO: Map -/
namespace Go.Proofs.Ytoppgdhidnpibaa
open Go.RowKit
set_option linter.unusedVariables false
set_option maxRecDepth 100000

/-- A span of which the number is told anew. -/
def gkF (g : Int → Int) (x : Ck) : Ck := ⟨x.n, g x.d⟩
/-- The spans that Map puts in. -/
def mpX (l : List Int) (i j : Int) (g : Int → Int) : List Rw := ((rl (part l i j)).map (gkF g)).map fun y => ⟨(y.n : Nat), y.d⟩
def mpE (l : List Int) (i j : Int) (g : Int → Int) : Int := if rcB l.length i j = true then spE l i j (mpX l i j g) else 5
def mpL (l : List Int) (i j : Int) (g : Int → Int) : List Int := if rcB l.length i j = true then spL l i j (mpX l i j g) else l
/-- The row, when k of its spans are told anew. -/
def lkF (g : Int → Int) (P : List Ck) (k : Nat) : List Ck := (P.take k).map (gkF g) ++ P.drop k
theorem lkF_len (g : Int → Int) (P : List Ck) {k : Nat} (h : k ≤ P.length) : (lkF g P k).length = P.length := by
  unfold lkF
  rw [List.length_append, List.length_map, List.length_take, List.length_drop]; omega
theorem lkF_zero (g : Int → Int) (P : List Ck) : lkF g P 0 = P := by simp [lkF]
theorem lkF_all (g : Int → Int) (P : List Ck) : lkF g P P.length = P.map (gkF g) := by simp [lkF]
theorem lkF_at (g : Int → Int) (P : List Ck) {k : Nat} (h : k < P.length) : (lkF g P k)[k]? = some P[k] := by
  unfold lkF
  rw [List.getElem?_append_right (by rw [List.length_map, List.length_take]; omega), List.length_map, List.length_take, Nat.min_eq_left (Nat.le_of_lt h), Nat.sub_self, List.getElem?_drop]
  simp [h]
theorem fl_pair (A R : List Ck) (x : Ck) (d : Int) : (Go.Proofs.Ytoppgdhidnpibaa.fl CkC (A ++ x :: R)).set (A.length * 2 + 1) (.int .i64 d) = Go.Proofs.Ytoppgdhidnpibaa.fl CkC (A ++ ⟨x.n, d⟩ :: R) := by
  have hA : (Go.Proofs.Ytoppgdhidnpibaa.fl CkC A).length = A.length * 2 := fl_len CkC A
  rw [fl_app, fl_app, fl_cons, fl_cons, List.set_append_right _ _ (by omega), hA, show A.length * 2 + 1 - A.length * 2 = 1 by omega]
  rfl
theorem lkF_set (g : Int → Int) (P : List Ck) {k : Nat} (h : k < P.length) : (Go.Proofs.Ytoppgdhidnpibaa.fl CkC (lkF g P k)).set (k * 2 + 1) (.int .i64 (g P[k].d)) = Go.Proofs.Ytoppgdhidnpibaa.fl CkC (lkF g P (k + 1)) := by
  unfold lkF
  have e1 : P.drop k = P[k] :: P.drop (k + 1) := List.drop_eq_getElem_cons h
  have e2 : P.take (k + 1) = P.take k ++ [P[k]] := List.take_succ_eq_append_getElem h
  have e3 : ((P.take k).map (gkF g)).length = k := by rw [List.length_map, List.length_take]; omega
  have := fl_pair ((P.take k).map (gkF g)) (P.drop (k + 1)) P[k] (g P[k].d)
  rw [e3] at this
  rw [e1, this, e2, List.map_append, List.append_assoc]
  rfl
theorem cnt_part (l : List Int) (i j : Int) : (rl (part l i j)).length ≤ cntR l := by
  show cntR (part l i j) ≤ _
  unfold part
  exact Nat.le_trans (cntR_drop _ _) (cntR_take _ _)
theorem mpX_len (l : List Int) (i j : Int) (g : Int → Int) : (mpX l i j g).length ≤ cntR l := by
  unfold mpX
  rw [List.length_map, List.length_map]; exact cnt_part l i j
theorem mpL_cnt (l : List Int) (i j : Int) (g : Int → Int) : cntR (mpL l i j g) ≤ 2 * cntR l + 1 := by
  unfold mpL
  split
  · have := spL_cnt l i j (mpX l i j g)
    have := mpX_len l i j g
    omega
  · omega
theorem below_le {B z : Nat} {a c : World} (h : Below z a c) (hB : B ≤ z) : Below B a c := ⟨h.os, h.tape, h.output, h.size, fun k hk => h.block k (Nat.lt_of_lt_of_le hk hB)⟩
section
variable {B rb : Nat} {l : List Int} {w w' W : World}
set_option maxHeartbeats 1000000 in
theorem rv_mapA (h : RV B rb l w) (hq : cntR l ≤ 10000) (i j : Int) (o : OpV) :
    Calls Try.prog 13 #[.pointer (some ⟨rb, 0, none⟩), .int .i64 i, .int .i64 j, .func (.func 14) #[opA o] #[]] w fun e w' => e = .returned (.int .i64 (mpE l i j (mapF o.b o.p))) ∧ RV B rb (mpL l i j (mapF o.b o.p)) w' ∧ Below B w w' := by
  have hB := h.hB
  cases hr : rcB l.length i j with
  | false =>
    have HO := Lib.hid (rv_over_no h i j hr)
    have e1 : mpE l i j (mapF o.b o.p) = 5 := by unfold mpE; rw [hr]; rfl
    have e2 : mpL l i j (mapF o.b o.p) = l := by unfold mpL; rw [hr]; rfl
    rw [e1, e2]
    have H0 := Lib.hid h
    have HBB := Lib.hid hB
    obtain ⟨fv, hfv⟩ : ∃ fv, Value.func (Fn.func 14) #[opA o] #[] = fv := ⟨_, rfl⟩
    rw [hfv]
    clear h hr hB e1 e2 hfv hq 
    go_enter Try.func13, Try.ntmps13
    go_wp2_with (go_at_call 10; refine HO.out.mono ?_; rintro e w1 ⟨rfl, bb⟩; have B1 := Lib.hid bb; clear bb)
    go_ret
    exact ⟨rfl, H0.out.below B1.out, below_le B1.out HBB.out⟩
  | true =>
    obtain ⟨a1, a2, a3⟩ := (rcB_iff _ _ _).1 hr
    have e1 : mpE l i j (mapF o.b o.p) = spE l i j (mpX l i j (mapF o.b o.p)) := by unfold mpE; rw [hr]; rfl
    have e2 : mpL l i j (mapF o.b o.p) = spL l i j (mpX l i j (mapF o.b o.p)) := by unfold mpL; rw [hr]; rfl
    rw [e1, e2]
    obtain ⟨i', hi'⟩ : ∃ k : Nat, i = k := ⟨i.toNat, by omega⟩
    obtain ⟨j', hj'⟩ : ∃ k : Nat, j = k := ⟨j.toNat, by omega⟩
    have hov := rv_over h (by omega) i' j' (by omega) (by omega)
    rw [← hi', ← hj'] at hov
    have HO := Lib.hid hov
    have HX := Lib.hid (mpX_len l i j (mapF o.b o.p))
    have H0 := Lib.hid h
    have HQ := Lib.hid hq
    have HBB := Lib.hid hB
    have HPL := Lib.hid (cnt_part l i j)
    have HASK := Lib.hid (fun d w (hw : True) => askA_any o d w)
    have HXX := Lib.hid (show mpX l i j (mapF o.b o.p) = ((rl (part l i j)).map (gkF (mapF o.b o.p))).map fun y => ⟨(y.n : Nat), y.d⟩ from rfl)
    obtain ⟨g, hg⟩ : ∃ g : Int → Int, (mapF o.b o.p) = g := ⟨_, rfl⟩
    rw [hg] at HX HXX ⊢
    rw [hg] at HASK
    obtain ⟨P, hP⟩ : ∃ P, rl (part l i j) = P := ⟨_, rfl⟩
    rw [hP] at HO HPL HXX
    obtain ⟨fv, hfv⟩ : ∃ fv, Value.func (Fn.func 14) #[opA o] #[] = fv := ⟨_, rfl⟩
    rw [hfv] at HASK ⊢
    clear h hr hB e1 e2 hfv hg hP hi' hj' a1 a2 a3 hov hq 
    go_enter Try.func13, Try.ntmps13
    go_wp2_with (go_at_call 10; refine HO.out.mono ?_; rintro e w1 ⟨v, b, rfl, hb, ho, bb⟩; have HBZ := Lib.hid hb; have OW := Lib.hid ho; have B1 := Lib.hid bb; clear hb bb; obtain ⟨va, vc, rfl, hva, -⟩ := own_shape ho; have HVA := Lib.hid hva; clear ho hva)
    have hpl : P.length ≤ 10000 := Nat.le_trans HPL.out HQ.out
    go_loopw [24] (fun s wr => ∃ k : Nat, k ≤ P.length ∧ s = .int .i64 k ∧ Hid (wr.ownsRow b 44 2 (.slice va P.length vc) P.length (Go.Proofs.Ytoppgdhidnpibaa.fl CkC (lkF g P k)) ∧ Below w.heap.size w wr)) (fun s _ => P.length - (intOf s).toNat)
    case atStart => exact ⟨0, Nat.zero_le _, rfl, Lib.hid ⟨by rw [lkF_zero]; exact OW.out, B1.out⟩⟩
    case round =>
      obtain ⟨k, hk, rfl, HI⟩ := hrel
      rename_i wr
      by_cases hlt : k < P.length
      · obtain ⟨g0, hg0⟩ : ∃ g0, va = some ⟨g0, 0, none⟩ := by
          rcases HVA.out with h | h
          · exfalso
            have := HI.out.1.2
            rcases this with ⟨-, h2⟩ | ⟨q, c, cur, hv, -⟩
            · omega
            · rw [h] at hv; injection hv with hv; cases hv
          · exact h
        subst hg0
        have hrow := (Row.of_owns (C := CkC) (xs := lkF g P k) (n := P.length) (e := 44) (base := b) HI.out.1).1
        have hll : P.length = (lkF g P k).length := (lkF_len g P hk).symm
        have hrow' := hrow
        rw [hll] at hrow'
        have hcc := ck_at hrow' (k := k) (by omega)
        have hat : (lkF g P k)[k]'(by omega) = P[k] := by
          have := lkF_at g P hlt
          rw [List.getElem?_eq_getElem (by omega)] at this
          injection this
        rw [hat, Nat.zero_add] at hcc
        have c1 := hcc.2
        have HST := Lib.hid (lkF_set g P hlt)
        have HOW := Lib.hid HI.out.1
        have HBW := Lib.hid HI.out.2
        have HA := Lib.hid (HASK.out P[k].d)
        obtain ⟨d, hd⟩ : ∃ d, P[k].d = d := ⟨_, rfl⟩
        rw [hd] at HA HST c1
        obtain ⟨d2, hd2⟩ : ∃ d2, g d = d2 := ⟨_, rfl⟩
        rw [hd2] at HA HST
        clear hrow hrow' hll hcc hat hd hd2 HI
        go_wp2_with (go_at_call 34; refine (HA.out _ trivial).mono ?_; rintro e w3 ⟨rfl, bb⟩; have O3 := Lib.hid (owns_kept HOW.out (fun q hq => bb.block q (own_lt7 HOW.out hq))); have B3 := Lib.hid (below_add HBW.out bb HBW.out.size); clear bb; obtain ⟨cur, hcur⟩ := own_tag O3.out rfl; have f3 := Cb.frozen (show Cb g0 44 cur w3 from hcur) (k * 2 + 1); have c3 : ∃ u, w3.cell? ⟨g0, k * 2 + 1, none⟩ = some u := (by
            have hr3 := (Row.of_owns (C := CkC) (xs := lkF g P k) (n := P.length) (e := 44) (base := b) O3.out).1
            rw [(lkF_len g P hk).symm] at hr3
            have := (ck_at hr3 (k := k) (by rw [lkF_len g P hk]; exact hlt)).2
            rw [Nat.zero_add] at this
            exact ⟨_, this⟩); obtain ⟨u3, c3⟩ := c3; clear hcur)
        go_roundw
        case rel =>
          refine ⟨k + 1, hlt, by simp, Lib.hid ⟨?_, ?_⟩⟩
          · have := owns_set O3.out (j := k * 2 + 1) (.int .i64 d2)
            rw [HST.out] at this
            exact this
          · exact B3.out.trans ((Off.of_grown (S := fun q => q = g0) (grown_set (w := w3) (g := g0) (o := k * 2 + 1) (.int .i64 d2)) (fun q hq => by cases hq; rfl)).below (fun q hq => by rw [hq]; exact Nat.le_trans HBZ.out (own_base O3.out rfl)) B3.out.size)
        case measure => simp only [intOf]; omega
      · obtain rfl : k = P.length := by omega
        have HR := Lib.hid (show RowB B w.heap.size wr (.slice va P.length vc) (mpX l i j g) by
          rw [HXX.out]
          have := HI.out.1
          rw [lkF_all] at this
          have e : P.length = (P.map (gkF g)).length := by simp
          rw [e] at this ⊢
          exact rowB_own this HBZ.out)
        have HB9 := Lib.hid HI.out.2
        clear HI
        go_wp2_with (go_at_call 12; refine (rv_splice H0.out HB9.out (by have := HX.out; have := HQ.out; omega) i j _ HR.out).mono ?_; rintro e w4 ⟨rfl, q1, bb⟩; have R4 := Lib.hid q1; have B4 := Lib.hid ((below_le HB9.out HBB.out).trans bb); clear q1 bb)
        go_ret
        exact ⟨rfl, R4.out, B4.out⟩
set_option maxHeartbeats 1000000 in
theorem rv_mapB (h : RV B rb l w) (hq : cntR l ≤ 10000) (i j : Int) (oa ob : OpV) (pa pb : Nat) (ha : Cb pa 24 (opcs oa) w) (hb : Cb pb 24 (opcs ob) w) :
    Calls Try.prog 13 #[.pointer (some ⟨rb, 0, none⟩), .int .i64 i, .int .i64 j, .func (.func 20) #[] #[.pointer (some ⟨pb, 0, none⟩), .pointer (some ⟨pa, 0, none⟩)]] w fun e w' => e = .returned (.int .i64 (mpE l i j (fun id => mapF ob.b ob.p (mapF oa.b oa.p id)))) ∧ RV B rb (mpL l i j (fun id => mapF ob.b ob.p (mapF oa.b oa.p id))) w' ∧ Below B w w' := by
  have hB := h.hB
  cases hr : rcB l.length i j with
  | false =>
    have HO := Lib.hid (rv_over_no h i j hr)
    have e1 : mpE l i j (fun id => mapF ob.b ob.p (mapF oa.b oa.p id)) = 5 := by unfold mpE; rw [hr]; rfl
    have e2 : mpL l i j (fun id => mapF ob.b ob.p (mapF oa.b oa.p id)) = l := by unfold mpL; rw [hr]; rfl
    rw [e1, e2]
    have H0 := Lib.hid h
    have HBB := Lib.hid hB
    obtain ⟨fv, hfv⟩ : ∃ fv, Value.func (Fn.func 20) #[] #[.pointer (some ⟨pb, 0, none⟩), .pointer (some ⟨pa, 0, none⟩)] = fv := ⟨_, rfl⟩
    rw [hfv]
    clear h hr hB e1 e2 hfv hq ha hb
    go_enter Try.func13, Try.ntmps13
    go_wp2_with (go_at_call 10; refine HO.out.mono ?_; rintro e w1 ⟨rfl, bb⟩; have B1 := Lib.hid bb; clear bb)
    go_ret
    exact ⟨rfl, H0.out.below B1.out, below_le B1.out HBB.out⟩
  | true =>
    obtain ⟨a1, a2, a3⟩ := (rcB_iff _ _ _).1 hr
    have e1 : mpE l i j (fun id => mapF ob.b ob.p (mapF oa.b oa.p id)) = spE l i j (mpX l i j (fun id => mapF ob.b ob.p (mapF oa.b oa.p id))) := by unfold mpE; rw [hr]; rfl
    have e2 : mpL l i j (fun id => mapF ob.b ob.p (mapF oa.b oa.p id)) = spL l i j (mpX l i j (fun id => mapF ob.b ob.p (mapF oa.b oa.p id))) := by unfold mpL; rw [hr]; rfl
    rw [e1, e2]
    obtain ⟨i', hi'⟩ : ∃ k : Nat, i = k := ⟨i.toNat, by omega⟩
    obtain ⟨j', hj'⟩ : ∃ k : Nat, j = k := ⟨j.toNat, by omega⟩
    have hov := rv_over h (by omega) i' j' (by omega) (by omega)
    rw [← hi', ← hj'] at hov
    have HO := Lib.hid hov
    have HX := Lib.hid (mpX_len l i j (fun id => mapF ob.b ob.p (mapF oa.b oa.p id)))
    have H0 := Lib.hid h
    have HQ := Lib.hid hq
    have HBB := Lib.hid hB
    have HPL := Lib.hid (cnt_part l i j)
    have HASK := Lib.hid (fun d w' (hw : Below w.heap.size w w') => askB_any oa ob pa pb d w' (ha.below hw) (hb.below hw))
    have HXX := Lib.hid (show mpX l i j (fun id => mapF ob.b ob.p (mapF oa.b oa.p id)) = ((rl (part l i j)).map (gkF (fun id => mapF ob.b ob.p (mapF oa.b oa.p id)))).map fun y => ⟨(y.n : Nat), y.d⟩ from rfl)
    obtain ⟨g, hg⟩ : ∃ g : Int → Int, (fun id => mapF ob.b ob.p (mapF oa.b oa.p id)) = g := ⟨_, rfl⟩
    rw [hg] at HX HXX ⊢
    have HASK : Hid (∀ d w', Below w.heap.size w w' → _) := Lib.hid (fun d w' hw => by have := HASK.out d w' hw; rw [show mapF ob.b ob.p (mapF oa.b oa.p d) = g d by rw [← hg]] at this; exact this)
    obtain ⟨P, hP⟩ : ∃ P, rl (part l i j) = P := ⟨_, rfl⟩
    rw [hP] at HO HPL HXX
    obtain ⟨fv, hfv⟩ : ∃ fv, Value.func (Fn.func 20) #[] #[.pointer (some ⟨pb, 0, none⟩), .pointer (some ⟨pa, 0, none⟩)] = fv := ⟨_, rfl⟩
    rw [hfv] at HASK ⊢
    clear h hr hB e1 e2 hfv hg hP hi' hj' a1 a2 a3 hov hq ha hb
    go_enter Try.func13, Try.ntmps13
    go_wp2_with (go_at_call 10; refine HO.out.mono ?_; rintro e w1 ⟨v, b, rfl, hb, ho, bb⟩; have HBZ := Lib.hid hb; have OW := Lib.hid ho; have B1 := Lib.hid bb; clear hb bb; obtain ⟨va, vc, rfl, hva, -⟩ := own_shape ho; have HVA := Lib.hid hva; clear ho hva)
    have hpl : P.length ≤ 10000 := Nat.le_trans HPL.out HQ.out
    go_loopw [24] (fun s wr => ∃ k : Nat, k ≤ P.length ∧ s = .int .i64 k ∧ Hid (wr.ownsRow b 44 2 (.slice va P.length vc) P.length (Go.Proofs.Ytoppgdhidnpibaa.fl CkC (lkF g P k)) ∧ Below w.heap.size w wr)) (fun s _ => P.length - (intOf s).toNat)
    case atStart => exact ⟨0, Nat.zero_le _, rfl, Lib.hid ⟨by rw [lkF_zero]; exact OW.out, B1.out⟩⟩
    case round =>
      obtain ⟨k, hk, rfl, HI⟩ := hrel
      rename_i wr
      by_cases hlt : k < P.length
      · obtain ⟨g0, hg0⟩ : ∃ g0, va = some ⟨g0, 0, none⟩ := by
          rcases HVA.out with h | h
          · exfalso
            have := HI.out.1.2
            rcases this with ⟨-, h2⟩ | ⟨q, c, cur, hv, -⟩
            · omega
            · rw [h] at hv; injection hv with hv; cases hv
          · exact h
        subst hg0
        have hrow := (Row.of_owns (C := CkC) (xs := lkF g P k) (n := P.length) (e := 44) (base := b) HI.out.1).1
        have hll : P.length = (lkF g P k).length := (lkF_len g P hk).symm
        have hrow' := hrow
        rw [hll] at hrow'
        have hcc := ck_at hrow' (k := k) (by omega)
        have hat : (lkF g P k)[k]'(by omega) = P[k] := by
          have := lkF_at g P hlt
          rw [List.getElem?_eq_getElem (by omega)] at this
          injection this
        rw [hat, Nat.zero_add] at hcc
        have c1 := hcc.2
        have HST := Lib.hid (lkF_set g P hlt)
        have HOW := Lib.hid HI.out.1
        have HBW := Lib.hid HI.out.2
        have HA := Lib.hid (HASK.out P[k].d)
        obtain ⟨d, hd⟩ : ∃ d, P[k].d = d := ⟨_, rfl⟩
        rw [hd] at HA HST c1
        obtain ⟨d2, hd2⟩ : ∃ d2, g d = d2 := ⟨_, rfl⟩
        rw [hd2] at HA HST
        clear hrow hrow' hll hcc hat hd hd2 HI
        go_wp2_with (go_at_call 34; refine (HA.out _ HBW.out).mono ?_; rintro e w3 ⟨rfl, bb⟩; have O3 := Lib.hid (owns_kept HOW.out (fun q hq => bb.block q (own_lt7 HOW.out hq))); have B3 := Lib.hid (below_add HBW.out bb HBW.out.size); clear bb; obtain ⟨cur, hcur⟩ := own_tag O3.out rfl; have f3 := Cb.frozen (show Cb g0 44 cur w3 from hcur) (k * 2 + 1); have c3 : ∃ u, w3.cell? ⟨g0, k * 2 + 1, none⟩ = some u := (by
            have hr3 := (Row.of_owns (C := CkC) (xs := lkF g P k) (n := P.length) (e := 44) (base := b) O3.out).1
            rw [(lkF_len g P hk).symm] at hr3
            have := (ck_at hr3 (k := k) (by rw [lkF_len g P hk]; exact hlt)).2
            rw [Nat.zero_add] at this
            exact ⟨_, this⟩); obtain ⟨u3, c3⟩ := c3; clear hcur)
        go_roundw
        case rel =>
          refine ⟨k + 1, hlt, by simp, Lib.hid ⟨?_, ?_⟩⟩
          · have := owns_set O3.out (j := k * 2 + 1) (.int .i64 d2)
            rw [HST.out] at this
            exact this
          · exact B3.out.trans ((Off.of_grown (S := fun q => q = g0) (grown_set (w := w3) (g := g0) (o := k * 2 + 1) (.int .i64 d2)) (fun q hq => by cases hq; rfl)).below (fun q hq => by rw [hq]; exact Nat.le_trans HBZ.out (own_base O3.out rfl)) B3.out.size)
        case measure => simp only [intOf]; omega
      · obtain rfl : k = P.length := by omega
        have HR := Lib.hid (show RowB B w.heap.size wr (.slice va P.length vc) (mpX l i j g) by
          rw [HXX.out]
          have := HI.out.1
          rw [lkF_all] at this
          have e : P.length = (P.map (gkF g)).length := by simp
          rw [e] at this ⊢
          exact rowB_own this HBZ.out)
        have HB9 := Lib.hid HI.out.2
        clear HI
        go_wp2_with (go_at_call 12; refine (rv_splice H0.out HB9.out (by have := HX.out; have := HQ.out; omega) i j _ HR.out).mono ?_; rintro e w4 ⟨rfl, q1, bb⟩; have R4 := Lib.hid q1; have B4 := Lib.hid ((below_le HB9.out HBB.out).trans bb); clear q1 bb)
        go_ret
        exact ⟨rfl, R4.out, B4.out⟩
end
end Go.Proofs.Ytoppgdhidnpibaa
