
import Derived.Test.YtoppgdhidnpibaaKS
/- QE: spans, of which it is said which blocks they may touch -/
namespace Go.Proofs.Ytoppgdhidnpibaa
open Go.RowKit
set_option linter.unusedVariables false
set_option maxRecDepth 100000
/-- Spans of the numbers l at rb, in blocks for which X holds. -/
def RX (X : Nat → Prop) (rb : Nat) (l : List Int) (W : World) : Prop := (∃ S : Nat → Prop, Rp S rb l W ∧ ∀ k, S k → X k ∧ k < W.heap.size) ∧ l.length ≤ 536870912 ∧ ∀ i ∈ l, 0 ≤ i
/-- Two of them that have no block in common. -/
def R2X (X : Nat → Prop) (rb : Nat) (l : List Int) (sb : Nat) (m : List Int) (W : World) : Prop := (∃ S T : Nat → Prop, Rp S rb l W ∧ Rp T sb m W ∧ (∀ k, S k → X k ∧ k < W.heap.size) ∧ (∀ k, T k → X k ∧ k < W.heap.size) ∧ ∀ k, S k → ¬ T k) ∧ (l.length ≤ 536870912 ∧ ∀ i ∈ l, 0 ≤ i) ∧ (m.length ≤ 536870912 ∧ ∀ i ∈ m, 0 ≤ i)
/-- A row of spans of which no cell lies where spans may be touched. -/
def RowX (X : Nat → Prop) (z : Nat) (w : World) (v : Value) (xs : List Rw) : Prop := ∀ W, Off (fun k => X k ∧ k < z) w W → Row RwC W v xs
section
variable {X Y : Nat → Prop} {B rb sb : Nat} {l m : List Int} {xs : List Rw} {w w' W : World}
theorem RX.below (h : RX X rb l w) (hb : Below w.heap.size w w') : RX X rb l w' := by
  obtain ⟨⟨S, h1, h2⟩, h3⟩ := h
  exact ⟨⟨S, h1.below hb, fun k hk => ⟨(h2 k hk).1, Nat.lt_of_lt_of_le (h2 k hk).2 hb.size⟩⟩, h3⟩
theorem RX.mono (h : RX X rb l w) (hY : ∀ k, k < w.heap.size → X k → Y k) : RX Y rb l w := by
  obtain ⟨⟨S, h1, h2⟩, h3⟩ := h
  exact ⟨⟨S, h1, fun k hk => ⟨hY k (h2 k hk).2 (h2 k hk).1, (h2 k hk).2⟩⟩, h3⟩
theorem RX.rv (h : RX X rb l w) (hB : ∀ k, X k → B ≤ k) : RV B rb l w := by
  obtain ⟨⟨S, h1, h2⟩, h3⟩ := h
  exact ⟨⟨S, h1, fun k hk => ⟨hB k (h2 k hk).1, (h2 k hk).2⟩⟩, h3⟩
theorem RV.rx (h : RV B rb l w) (hX : ∀ k, B ≤ k → k < w.heap.size → X k) : RX X rb l w := by
  obtain ⟨⟨S, h1, h2⟩, h3⟩ := h
  exact ⟨⟨S, h1, fun k hk => ⟨hX k (h2 k hk).1 (h2 k hk).2, (h2 k hk).2⟩⟩, h3⟩
theorem R2X.below (h : R2X X rb l sb m w) (hb : Below w.heap.size w w') : R2X X rb l sb m w' := by
  obtain ⟨⟨S, T, h1, h2, h3, h4, h5⟩, h6⟩ := h
  exact ⟨⟨S, T, h1.below hb, h2.below hb, fun k hk => ⟨(h3 k hk).1, Nat.lt_of_lt_of_le (h3 k hk).2 hb.size⟩, fun k hk => ⟨(h4 k hk).1, Nat.lt_of_lt_of_le (h4 k hk).2 hb.size⟩, h5⟩, h6⟩
theorem R2X.mono (h : R2X X rb l sb m w) (hY : ∀ k, k < w.heap.size → X k → Y k) : R2X Y rb l sb m w := by
  obtain ⟨⟨S, T, h1, h2, h3, h4, h5⟩, h6⟩ := h
  exact ⟨⟨S, T, h1, h2, fun k hk => ⟨hY k (h3 k hk).2 (h3 k hk).1, (h3 k hk).2⟩, fun k hk => ⟨hY k (h4 k hk).2 (h4 k hk).1, (h4 k hk).2⟩, h5⟩, h6⟩
theorem R2.r2x (h : R2 B rb l sb m w) (hX : ∀ k, B ≤ k → k < w.heap.size → X k) : R2X X rb l sb m w := by
  obtain ⟨⟨S, T, h1, h2, h3, h4, h5⟩, h6⟩ := h
  exact ⟨⟨S, T, h1, h2, fun k hk => ⟨hX k (h3 k hk).1 (h3 k hk).2, (h3 k hk).2⟩, fun k hk => ⟨hX k (h4 k hk).1 (h4 k hk).2, (h4 k hk).2⟩, h5⟩, h6⟩
theorem R2X.rxf (h : R2X X rb l sb m w) : RX X rb l w := by
  obtain ⟨⟨S, T, h1, h2, h3, h4, h5⟩, h6⟩ := h
  exact ⟨⟨S, h1, h3⟩, h6.1⟩
theorem R2X.rxs (h : R2X X rb l sb m w) : RX X sb m w := by
  obtain ⟨⟨S, T, h1, h2, h3, h4, h5⟩, h6⟩ := h
  exact ⟨⟨T, h2, h4⟩, h6.2⟩
theorem R2X.fst (h : R2X X rb l sb m w) : RV 0 rb l w := h.rxf.rv (fun _ _ => Nat.zero_le _)
theorem R2X.snd (h : R2X X rb l sb m w) : RV 0 sb m w := h.rxs.rv (fun _ _ => Nat.zero_le _)
theorem R2X.swap (h : R2X X rb l sb m w) : R2X X sb m rb l w := by
  obtain ⟨⟨S, T, h1, h2, h3, h4, h5⟩, h6⟩ := h
  exact ⟨⟨T, S, h2, h1, h4, h3, fun k h h' => h5 k h' h⟩, h6.2, h6.1⟩
theorem rowX_arg {W0 : World} {z : Nat} {v : Value} (h : Row RwC W0 v xs) (hb : Below W0.heap.size W0 w) (h0 : ∀ k, X k → W0.heap.size ≤ k) : RowX X z w v xs := fun W hW =>
  h.below (hb.trans (hW.below (fun k hk => h0 k hk.1) hb.size)) (Nat.le_refl _)
theorem rowX_built {z : Nat} {cs : Array Value} (xs : List Rw) (hc : (Go.Proofs.Ytoppgdhidnpibaa.fl RwC xs).toArray = cs) (hm : xs.length ≤ 1000) (hz : z ≤ w.heap.size) : RowX X z (w.alloc (.cells cs 44)) (.slice (some ⟨w.heap.size, 0, none⟩) xs.length xs.length) xs := fun W hW => by
  subst hc
  exact row_cells (by unfold maxLen; omega) ((cb_new w 44 _).off hW (fun hk => by have := hk.2; omega))
theorem rowX_own {z b : Nat} {v : Value} {ys : List Ck} (h : w.ownsRow b 44 2 v ys.length (Go.Proofs.Ytoppgdhidnpibaa.fl CkC ys)) (hz : z ≤ b) : RowX X z w v (ys.map fun y => ⟨(y.n : Nat), y.d⟩) := fun W hW => by
  have := rowB_own (B := 0) (w := w) (z := z) h hz
  refine this W (hW.mono fun k hk => ⟨Nat.zero_le _, hk.2⟩)
theorem rx_splice {w0 : World} (h0 : RX X rb l w0) (hw : Below w0.heap.size w0 w) (hX : ∀ k, w.heap.size ≤ k → X k) (hq : cntR l + xs.length ≤ 20000) (i j : Int) (v : Value) (hv : RowX X w0.heap.size w v xs) :
    Calls Try.prog 12 #[.pointer (some ⟨rb, 0, none⟩), .int .i64 i, .int .i64 j, v] w fun e w' => e = .returned (.int .i64 (spE l i j xs)) ∧ RX X rb (spL l i j xs) w' ∧ Off X w w' := by
  obtain ⟨⟨S, g1, g2⟩, h3⟩ := h0
  have h1 := g1.below hw
  have h2 : ∀ k, S k → X k ∧ k < w.heap.size := fun k hk => ⟨(g2 k hk).1, Nat.lt_of_lt_of_le (g2 k hk).2 hw.size⟩
  refine (sp_splice h1 (fun k hk => (h2 k hk).2) h3.1 hq i j v (fun W hW => hv W (hW.mono g2))).mono ?_
  rintro e w' ⟨rfl, S', q1, q2, q3⟩
  exact ⟨rfl, ⟨⟨S', q1, fun k hk => ⟨(q2 k hk).1.elim (fun h => (h2 k h).1) (hX k), (q2 k hk).2⟩⟩, spL_ok h3 i j xs⟩, q3.mono (fun k hk => (h2 k hk).1)⟩
theorem r2x_splice {w0 : World} (h0 : R2X X rb l sb m w0) (hw : Below w0.heap.size w0 w) (hX : ∀ k, w.heap.size ≤ k → X k) (hq : cntR l + xs.length ≤ 20000) (i j : Int) (v : Value) (hv : RowX X w0.heap.size w v xs) :
    Calls Try.prog 12 #[.pointer (some ⟨rb, 0, none⟩), .int .i64 i, .int .i64 j, v] w fun e w' => e = .returned (.int .i64 (spE l i j xs)) ∧ R2X X rb (spL l i j xs) sb m w' ∧ Off X w w' := by
  obtain ⟨⟨S, T, g1, g2, g3, g4, h5⟩, h6⟩ := h0
  have h1 := g1.below hw
  have h2 := g2.below hw
  have h3 : ∀ k, S k → X k ∧ k < w.heap.size := fun k hk => ⟨(g3 k hk).1, Nat.lt_of_lt_of_le (g3 k hk).2 hw.size⟩
  have h4 : ∀ k, T k → X k ∧ k < w.heap.size := fun k hk => ⟨(g4 k hk).1, Nat.lt_of_lt_of_le (g4 k hk).2 hw.size⟩
  refine (sp_splice h1 (fun k hk => (h3 k hk).2) h6.1.1 hq i j v (fun W hW => hv W (hW.mono g3))).mono ?_
  rintro e w' ⟨rfl, S', q1, q2, q3⟩
  refine ⟨rfl, ⟨⟨S', T, q1, h2.off q3 (fun k hk hs => h5 k hs hk), fun k hk => ⟨(q2 k hk).1.elim (fun h => (h3 k h).1) (hX k), (q2 k hk).2⟩, fun k hk => ⟨(h4 k hk).1, Nat.lt_of_lt_of_le (h4 k hk).2 q3.size⟩, fun k hk ht => ?_⟩, spL_ok h6.1 i j xs, h6.2⟩, q3.mono (fun k hk => (h3 k hk).1)⟩
  rcases (q2 k hk).1 with h | h
  · exact h5 k h ht
  · have := (h4 k ht).2; omega
set_option maxHeartbeats 1000000 in
theorem r2x_mapA (h : R2X X rb l sb m w) (hX : ∀ k, w.heap.size ≤ k → X k) (hq : cntR l ≤ 10000) (i j : Int) (o : OpV) :
    Calls Try.prog 13 #[.pointer (some ⟨rb, 0, none⟩), .int .i64 i, .int .i64 j, .func (.func 14) #[opA o] #[]] w fun e w' => e = .returned (.int .i64 (mpE l i j (mapF o.b o.p))) ∧ R2X X rb (mpL l i j (mapF o.b o.p)) sb m w' ∧ Off X w w' := by
  cases hr : rcB l.length i j with
  | false =>
    have HO := Lib.hid (rv_over_no h.fst i j hr)
    have e1 : mpE l i j (mapF o.b o.p) = 5 := by unfold mpE; rw [hr]; rfl
    have e2 : mpL l i j (mapF o.b o.p) = l := by unfold mpL; rw [hr]; rfl
    rw [e1, e2]
    have H0 := Lib.hid h
    have HXU := Lib.hid hX
    obtain ⟨fv, hfv⟩ : ∃ fv, Value.func (Fn.func 14) #[opA o] #[] = fv := ⟨_, rfl⟩
    rw [hfv]
    clear h hr hX e1 e2 hfv hq 
    go_enter Try.func13, Try.ntmps13
    go_wp2_with (go_at_call 10; refine HO.out.mono ?_; rintro e w1 ⟨rfl, bb⟩; have B1 := Lib.hid bb; clear bb)
    go_ret
    exact ⟨rfl, H0.out.below B1.out, Off.of_below B1.out⟩
  | true =>
    obtain ⟨a1, a2, a3⟩ := (rcB_iff _ _ _).1 hr
    have e1 : mpE l i j (mapF o.b o.p) = spE l i j (mpX l i j (mapF o.b o.p)) := by unfold mpE; rw [hr]; rfl
    have e2 : mpL l i j (mapF o.b o.p) = spL l i j (mpX l i j (mapF o.b o.p)) := by unfold mpL; rw [hr]; rfl
    rw [e1, e2]
    obtain ⟨i', hi'⟩ : ∃ k : Nat, i = k := ⟨i.toNat, by omega⟩
    obtain ⟨j', hj'⟩ : ∃ k : Nat, j = k := ⟨j.toNat, by omega⟩
    have hov := rv_over h.fst (by omega) i' j' (by omega) (by omega)
    rw [← hi', ← hj'] at hov
    have HO := Lib.hid hov
    have HX := Lib.hid (mpX_len l i j (mapF o.b o.p))
    have H0 := Lib.hid h
    have HQ := Lib.hid hq
    have HXU := Lib.hid hX
    have HPL := Lib.hid (cnt_part l i j)
    have HASK := Lib.hid (fun d w (hw : True) => askA_any o d w)
    have HXX := Lib.hid (show mpX l i j (mapF o.b o.p) = ((rl (part l i j)).map (gkF (mapF o.b o.p))).map fun y => ⟨(y.n : Nat), y.d⟩ from rfl)
    obtain ⟨g, hg⟩ : ∃ g : Int → Int, (mapF o.b o.p) = g := ⟨_, rfl⟩
    rw [hg] at HX HXX ⊢
    rw [hg] at HASK
    obtain ⟨P, hP⟩ : ∃ P, rl (part l i j) = P := ⟨_, rfl⟩
    rw [hP] at HO HPL HXX
    obtain ⟨fv, hfv⟩ : ∃ fv, Value.func (Fn.func 14) #[opA o] #[] = fv := ⟨_, rfl⟩
    rw [hfv] at HASK ⊢
    clear h hr hX e1 e2 hfv hg hP hi' hj' a1 a2 a3 hov hq 
    go_enter Try.func13, Try.ntmps13
    go_wp2_with (go_at_call 10; refine HO.out.mono ?_; rintro e w1 ⟨v, b, rfl, hb, ho, bb⟩; have HBZ := Lib.hid hb; have OW := Lib.hid ho; have B1 := Lib.hid bb; clear hb bb; obtain ⟨va, vc, rfl, hva, -⟩ := own_shape ho; have HVA := Lib.hid hva; clear ho hva)
    have hpl : P.length ≤ 10000 := Nat.le_trans HPL.out HQ.out
    go_loopw [24] (fun s wr => ∃ k : Nat, k ≤ P.length ∧ s = .int .i64 k ∧ Hid (wr.ownsRow b 44 2 (.slice va P.length vc) P.length (Go.Proofs.Ytoppgdhidnpibaa.fl CkC (lkF g P k)) ∧ Below w.heap.size w wr)) (fun s _ => P.length - (intOf s).toNat)
    case atStart => exact ⟨0, Nat.zero_le _, rfl, Lib.hid ⟨by rw [lkF_zero]; exact OW.out, B1.out⟩⟩
    case round =>
      obtain ⟨k, hk, rfl, HI⟩ := hrel
      rename_i wr
      by_cases hlt : k < P.length
      · obtain ⟨g0, hg0⟩ : ∃ g0, va = some ⟨g0, 0, none⟩ := by
          rcases HVA.out with h | h
          · exfalso
            have := HI.out.1.2
            rcases this with ⟨-, h2⟩ | ⟨q, c, cur, hv, -⟩
            · omega
            · rw [h] at hv; injection hv with hv; cases hv
          · exact h
        subst hg0
        have hrow := (Row.of_owns (C := CkC) (xs := lkF g P k) (n := P.length) (e := 44) (base := b) HI.out.1).1
        have hll : P.length = (lkF g P k).length := (lkF_len g P hk).symm
        have hrow' := hrow
        rw [hll] at hrow'
        have hcc := ck_at hrow' (k := k) (by omega)
        have hat : (lkF g P k)[k]'(by omega) = P[k] := by
          have := lkF_at g P hlt
          rw [List.getElem?_eq_getElem (by omega)] at this
          injection this
        rw [hat, Nat.zero_add] at hcc
        have c1 := hcc.2
        have HST := Lib.hid (lkF_set g P hlt)
        have HOW := Lib.hid HI.out.1
        have HBW := Lib.hid HI.out.2
        have HA := Lib.hid (HASK.out P[k].d)
        obtain ⟨d, hd⟩ : ∃ d, P[k].d = d := ⟨_, rfl⟩
        rw [hd] at HA HST c1
        obtain ⟨d2, hd2⟩ : ∃ d2, g d = d2 := ⟨_, rfl⟩
        rw [hd2] at HA HST
        clear hrow hrow' hll hcc hat hd hd2 HI
        go_wp2_with (go_at_call 34; refine (HA.out _ trivial).mono ?_; rintro e w3 ⟨rfl, bb⟩; have O3 := Lib.hid (owns_kept HOW.out (fun q hq => bb.block q (own_lt7 HOW.out hq))); have B3 := Lib.hid (below_add HBW.out bb HBW.out.size); clear bb; obtain ⟨cur, hcur⟩ := own_tag O3.out rfl; have f3 := Cb.frozen (show Cb g0 44 cur w3 from hcur) (k * 2 + 1); have c3 : ∃ u, w3.cell? ⟨g0, k * 2 + 1, none⟩ = some u := (by
            have hr3 := (Row.of_owns (C := CkC) (xs := lkF g P k) (n := P.length) (e := 44) (base := b) O3.out).1
            rw [(lkF_len g P hk).symm] at hr3
            have := (ck_at hr3 (k := k) (by rw [lkF_len g P hk]; exact hlt)).2
            rw [Nat.zero_add] at this
            exact ⟨_, this⟩); obtain ⟨u3, c3⟩ := c3; clear hcur)
        go_roundw
        case rel =>
          refine ⟨k + 1, hlt, by simp, Lib.hid ⟨?_, ?_⟩⟩
          · have := owns_set O3.out (j := k * 2 + 1) (.int .i64 d2)
            rw [HST.out] at this
            exact this
          · exact B3.out.trans ((Off.of_grown (S := fun q => q = g0) (grown_set (w := w3) (g := g0) (o := k * 2 + 1) (.int .i64 d2)) (fun q hq => by cases hq; rfl)).below (fun q hq => by rw [hq]; exact Nat.le_trans HBZ.out (own_base O3.out rfl)) B3.out.size)
        case measure => simp only [intOf]; omega
      · obtain rfl : k = P.length := by omega
        have HR := Lib.hid (show RowX X w.heap.size wr (.slice va P.length vc) (mpX l i j g) by
          rw [HXX.out]
          have := HI.out.1
          rw [lkF_all] at this
          have e : P.length = (P.map (gkF g)).length := by simp
          rw [e] at this ⊢
          exact rowX_own this HBZ.out)
        have HB9 := Lib.hid HI.out.2
        clear HI
        go_wp2_with (go_at_call 12; refine (r2x_splice H0.out HB9.out (fun k hk => HXU.out k (Nat.le_trans HB9.out.size hk)) (by have := HX.out; have := HQ.out; omega) i j _ HR.out).mono ?_; rintro e w4 ⟨rfl, q1, bb⟩; have R4 := Lib.hid q1; have B4 := Lib.hid ((Off.of_below HB9.out).seq bb); clear q1 bb)
        go_ret
        exact ⟨rfl, R4.out, B4.out⟩
end
end Go.Proofs.Ytoppgdhidnpibaa
