
import Derived.Test.YthcakinllcffoaaH14
/- H18: RulesDo -/
namespace Go.Proofs.Ythcakinllcffoaa
open Go.RowKit
set_option linter.unusedVariables false

theorem rcomplete_h (ks : List Key) (p l : List Chg) (n : Int) (hn : cE ks p = n) (hL : cL ks p = l) (hk : ks.length ≤ 64) (hg : Good ks) (hr : RiseC p) (hl : p.length ≤ 1000) (v u : Value) (W : World) (hs : Krow W v ks) (hp : Crow W u p) :
    Calls Try.prog 17 #[v, u] W fun e w' => ∃ u', e = .returned (.tuple #[u', .int .i64 n]) ∧ Hid (Crow w' u' l) ∧ Below W.heap.size W w' := by
  rw [← hn, ← hL]
  exact (rcomplete_any v u ks p W hs hk hg hp hr hl).mono fun e w' ⟨u', h, ho, hb⟩ => ⟨u', h, Lib.hid (own6_row ho), hb⟩
theorem rstep_h (ks : List Key) (xs : List Att) (key by_ : Int) (hr : Rise xs) (hl : xs.length ≤ 900) (hk : ks.length ≤ 64) (hg : Good ks) (e : Int) (he : sE ks key = e) (l : List Chg) (hL : sL ks xs key (stepV (numN xs key) by_) = l) (v u : Value) (W : World) (hs : Krow W v ks) (hv : Arow W u xs) :
    Calls Try.prog 18 #[v, u, .int .i64 key, .int .i64 by_] W fun z w' => ∃ u', z = .returned (.tuple #[u', .int .i64 e]) ∧ Hid (Crow w' u' l) ∧ Below W.heap.size W w' := by
  rw [← he, ← hL]
  exact (rstep_any v u ks xs key by_ W hs hk hg hv hr hl).mono fun z w' ⟨u', h1, h5, h6⟩ => ⟨u', h1, Lib.hid (own6_row h5), h6⟩
theorem rsplit_h (ks : List Key) (xs l : List Att) (hL : only ks fS xs = l) (hl : xs.length ≤ 1000000) (v u : Value) (W : World) (hs : Krow W v ks) (hv : Arow W u xs) :
    Calls Try.prog 21 #[v, u] W fun e w' => ∃ u', e = .returned u' ∧ Hid (Arow w' u' l) ∧ Below W.heap.size W w' :=
  (rsplit_any v u ks xs W hs hv hl).mono fun e w' ⟨u', h, ho, hb⟩ => ⟨u', h, Lib.hid (by rw [← hL]; exact ho.row), hb⟩
theorem rtyped_h (ks : List Key) (x y l : List Att) (hL : typ ks x y = l) (hx : Rise x) (hy : Rise y) (hn : x.length + y.length ≤ 1000) (v u1 u2 : Value) (W : World) (hs : Krow W v ks) (h1 : Arow W u1 x) (h2 : Arow W u2 y) :
    Calls Try.prog 22 #[v, u1, u2] W fun e w' => ∃ u', e = .returned u' ∧ Hid (Arow w' u' l) ∧ Below W.heap.size W w' :=
  (rtyped_any v u1 u2 ks x y W hs h1 h2 hx hy hn).mono fun e w' ⟨u', h, ho, hb⟩ => ⟨u', h, Lib.hid (by rw [← hL]; exact ho.row), hb⟩
theorem step_end_h (ks : List Key) (xs : List Att) (key by_ : Int) (hl : xs.length ≤ 1000000) (hwf : (Lit.int .i64 key).wf = true) (v u : Value) (W : World) (hs : Sch W v ks) (hv : Arow W u xs) :
    Calls Try.prog 16 #[v, u, .int .i64 key, .int .i64 by_] W fun z w' => ∃ x, z = .returned x ∧ Below W.heap.size W w' :=
  (step_any v u ks xs key by_ W hs hv hl hwf).mono fun z w' ⟨_, _, _, _, _, h4, _, h6⟩ => ⟨_, h4, h6⟩
theorem grown_app {w w' : World} {e : TypeId} (h : (w.alloc (.cells #[] e)).grownBy w' (Value.slice (some ⟨w.heap.size, 0, none⟩) 0 0).ownBlock) : Below w.heap.size w w' :=
  (kbelow_one w (.cells #[] e)).grown h (by simp) (fun k hk => own_base (own_none w e 1) hk)
theorem row_app {α : Type} {C : Cel α} {w' : World} {base : Nat} {e : TypeId} {v : Value} {xs : List α} (h : w'.ownsRow base e C.m v (0 + xs.length) ([] ++ fl C xs)) : Row C w' v xs := by
  rw [Nat.zero_add, List.nil_append] at h
  exact (Row.of_owns h).1
/-- A row that may be written over: its cells are there, and not marked. -/
def WX (v : Value) (n : Nat) (w : World) : Prop := ∀ g m cap, v = .slice (some ⟨g, 0, none⟩) m cap → ∃ cur t, w.heap[g]? = some (.cells cur t (0, 0)) ∧ n ≤ cur.size
theorem WX.of_own {W w : World} {v : Value} {l : List Chg} (h : Own6 W w v l) : WX v (l.length * 6) w := by
  intro g m cap hv
  rcases h.2 with ⟨hn, _⟩ | ⟨g', cap', cur, hv', hb, hg, hc, hm, hcs, _⟩
  · rw [hn] at hv; cases hv
  · rw [hv'] at hv
    injection hv with e1 e2 e3
    injection e1 with e1
    injection e1 with e1
    subst e1
    exact ⟨cur, _, hg, Nat.le_trans (Nat.mul_le_mul_right 6 hc) (Nat.le_of_eq hcs.symm)⟩
theorem WX.cell {v : Value} {n : Nat} {w : World} (h : WX v n w) {g m cap : Nat} (hv : v = .slice (some ⟨g, 0, none⟩) m cap) {i : Nat} (hi : i < n) : (∃ x, w.cell? ⟨g, i, none⟩ = some x) ∧ w.frozen? ⟨g, i, none⟩ = false := by
  obtain ⟨cur, t, hg, hc⟩ := h g m cap hv
  refine ⟨⟨cur[i]'(by omega), ?_⟩, frozen_of_row w g i _ t hg⟩
  rw [cell_of_row w g i _ t (0, 0) hg]
  simp
theorem WX.set {v : Value} {n : Nat} {w : World} (h : WX v n w) {g m cap : Nat} (hv : v = .slice (some ⟨g, 0, none⟩) m cap) (i : Nat) (x : Value) : WX v n (w.setCell ⟨g, i, none⟩ x) := by
  intro g' m' cap' hv'
  rw [hv] at hv'
  injection hv' with e1 e2 e3
  injection e1 with e1
  injection e1 with e1
  subst e1
  obtain ⟨cur, t, hg, hc⟩ := h g m cap hv
  exact ⟨_, t, heap_setCell_same w g i cur t x hg, by simpa using hc⟩
/-- The list's block is none that was there. -/
theorem own_fresh {W w : World} {l : List Chg} {g m cap : Nat} (h : Own6 W w (.slice (some ⟨g, 0, none⟩) m cap) l) : W.heap.size ≤ g := own_base h rfl
theorem own_zero {W w : World} {a : Option Addr} {n c : Nat} {l : List Chg} (h : Own6 W w (.slice a n c) l) (h0 : 0 < l.length) : ∃ g, a = some ⟨g, 0, none⟩ := by
  rcases h.2 with ⟨hn, hz⟩ | ⟨g, cap, cur, hv, _⟩
  · omega
  · injection hv with e1 e2 e3; exact ⟨g, e1⟩

set_option maxRecDepth 100000 in
set_option maxHeartbeats 8000000 in
theorem do_walk (kv v1 v2 v3 : Value) (ks : List Key) (p : List Chg) (a b : List Att) (key by_ : Int) (w : World) (hk : Krow w kv ks) (yk : ∀ k ∈ ks, KeyW k) (h1 : Crow w v1 p) (y1 : ∀ c ∈ p, ChgW c) (h2 : Arow w v2 a) (y2 : ∀ c ∈ a, AttW c) (h3 : Arow w v3 b) (y3 : ∀ c ∈ b, AttW c) (hwf : (Lit.int .i64 key).wf = true) :
    Calls Try.prog 3 #[kv, v1, v2, v3, .int .i64 key, .int .i64 by_] w fun e w' => e = .returned (.bool true) ∧ Below w.heap.size w w' := by
  have HK := Lib.hid (fun w => known14_any w)
  have hlk := hk.len
  have hl1 := h1.len
  have hl2 := h2.len
  have hl3 := h3.len
  obtain ⟨ka, kc, rfl⟩ := hk.shape
  obtain ⟨pa, pc, rfl⟩ := h1.shape
  obtain ⟨aa, ac, rfl⟩ := h2.shape
  obtain ⟨ba, bc, rfl⟩ := h3.shape
  have HB0 := Lib.hid (Below.refl w.heap.size w)
  have Hk0 := Lib.hid hk
  have Hp0 := Lib.hid h1
  have Ha0 := Lib.hid h2
  have Hb0 := Lib.hid h3
  clear hk h1 h2 h3
  obtain ⟨g, hg⟩ : ∃ b', gt2 ks.length p.length a.length b.length = b' := ⟨_, rfl⟩
  have HG := Lib.hid (great2_h ks.length p.length a.length b.length g hg hlk hl1 hl2 hl3 ka kc pa pc aa ac ba bc w)
  cases g
  rotate_left
  · clear hg
    go_enter Try.func3, Try.ntmps3
    go_wp2_with (first
      | (go_at_call 7; (with_reducible refine (HG.out).mono ?_); rintro e w1 ⟨rfl, hb⟩; have hb1 := hb; have Hk1 := Lib.hid (Hk0.out.below hb1 (Nat.le_refl _)); have Hp1 := Lib.hid (Hp0.out.below hb1 (Nat.le_refl _)); have Ha1 := Lib.hid (Ha0.out.below hb1 (Nat.le_refl _)); have Hb1 := Lib.hid (Hb0.out.below hb1 (Nat.le_refl _)); have HB1 := Lib.hid (below_add HB0.out hb1 HB0.out.size); clear hb hb1)
      | (go_at_call 8; (with_reducible refine (HK.out _).mono ?_); rintro e w99 ⟨rfl, hb⟩; have HB99 := Lib.hid (below_add HB1.out hb HB1.out.size); clear hb))
    go_ret
    exact ⟨rfl, HB99.out⟩
  obtain ⟨hk64, hp100, ha100, hb100⟩ := gt2_no hg
  by_cases hm : mayKs ks
  rotate_left
  · have HN := Lib.hid (newno_h ks yk hm)
    have HRM := Lib.hid (fun v W h => rkeysno_h ks hm v W h)
    clear hg hm yk
    go_enter Try.func3, Try.ntmps3
    go_wp2_with (first
      | (go_at_call 7; (with_reducible refine (HG.out).mono ?_); rintro e w1 ⟨rfl, hb⟩; have hb1 := hb; have Hk1 := Lib.hid (Hk0.out.below hb1 (Nat.le_refl _)); have Hp1 := Lib.hid (Hp0.out.below hb1 (Nat.le_refl _)); have Ha1 := Lib.hid (Ha0.out.below hb1 (Nat.le_refl _)); have Hb1 := Lib.hid (Hb0.out.below hb1 (Nat.le_refl _)); have HB1 := Lib.hid (below_add HB0.out hb1 HB0.out.size); clear hb hb1)
      | (go_at_call 9; (with_reducible refine (HN.out _ _ Hk1.out).mono ?_); rintro e w2 ⟨rfl, hb⟩; have hb2 := hb; have Hk2 := Lib.hid (Hk1.out.below hb2 (Nat.le_refl _)); have Hp2 := Lib.hid (Hp1.out.below hb2 (Nat.le_refl _)); have Ha2 := Lib.hid (Ha1.out.below hb2 (Nat.le_refl _)); have Hb2 := Lib.hid (Hb1.out.below hb2 (Nat.le_refl _)); have HB2 := Lib.hid (below_add HB1.out hb2 HB1.out.size); clear hb hb2)
      | (go_at_call 10; (with_reducible refine (HRM.out _ _ Hk2.out).mono ?_); rintro e w3 ⟨rfl, hb⟩; have hb3 := hb; have Hk3 := Lib.hid (Hk2.out.below hb3 (Nat.le_refl _)); have Hp3 := Lib.hid (Hp2.out.below hb3 (Nat.le_refl _)); have Ha3 := Lib.hid (Ha2.out.below hb3 (Nat.le_refl _)); have Hb3 := Lib.hid (Hb2.out.below hb3 (Nat.le_refl _)); have HB3 := Lib.hid (below_add HB2.out hb3 HB2.out.size); clear hb hb3)
      | (go_at_call 8; (with_reducible refine (HK.out _).mono ?_); rintro e w99 ⟨rfl, hb⟩; have HB99 := Lib.hid (below_add HB3.out hb HB3.out.size); clear hb))
    go_ret
    exact ⟨rfl, HB99.out⟩
  have HN := Lib.hid (new_h ks yk hm)
  have hG := hm.2
  obtain ⟨r1, hr1⟩ : ∃ x, decide (RiseC p) = x := ⟨_, rfl⟩
  obtain ⟨r2, hr2⟩ : ∃ x, decide (Rise a) = x := ⟨_, rfl⟩
  obtain ⟨r3, hr3⟩ : ∃ x, decide (Rise b) = x := ⟨_, rfl⟩
  have HR1 := Lib.hid (fun v W h => riseC_h p r1 hr1 v W h)
  have HR2 := Lib.hid (fun v W h => riseA_h a r2 hr2 v W h)
  have HR3 := Lib.hid (fun v W h => riseA_h b r3 hr3 v W h)
  have HC := Lib.hid (fun v u W h h' => complete_h ks p (cL ks p) (cE ks p) rfl rfl y1 (by omega) v u W h h')
  have HSP := Lib.hid (fun v u W h h' => split_h ks a (only ks fS a) rfl y2 (by omega) v u W h h')
  have HTY := Lib.hid (fun v x y W h h' h'' => typed_h ks a b (typ ks a b) rfl y2 y3 (by omega) (by omega) v x y W h h' h'')
  have HSE := Lib.hid (fun v u W h h' => step_end_h ks a key by_ (by omega) hwf v u W h h')
  clear hg hm yk
  cases r1
  · clear hr1 hr2 hr3 hG
    go_enter Try.func3, Try.ntmps3
    go_wp2_with (first
      | (go_at_call 7; (with_reducible refine (HG.out).mono ?_); rintro e w1 ⟨rfl, hb⟩; have hb1 := hb; have Hk1 := Lib.hid (Hk0.out.below hb1 (Nat.le_refl _)); have Hp1 := Lib.hid (Hp0.out.below hb1 (Nat.le_refl _)); have Ha1 := Lib.hid (Ha0.out.below hb1 (Nat.le_refl _)); have Hb1 := Lib.hid (Hb0.out.below hb1 (Nat.le_refl _)); have HB1 := Lib.hid (below_add HB0.out hb1 HB0.out.size); clear hb hb1)
      | (go_at_call 9; (with_reducible refine (HN.out _ _ Hk1.out).mono ?_); rintro e w2 ⟨s2, rfl, hs, hb⟩; have hb2 := hb; have Hk2 := Lib.hid (Hk1.out.below hb2 (Nat.le_refl _)); have Hp2 := Lib.hid (Hp1.out.below hb2 (Nat.le_refl _)); have Ha2 := Lib.hid (Ha1.out.below hb2 (Nat.le_refl _)); have Hb2 := Lib.hid (Hb1.out.below hb2 (Nat.le_refl _)); have HB2 := Lib.hid (below_add HB1.out hb2 HB1.out.size); have Hs2 := Lib.hid (hs.out); clear hs; clear hb hb2)
      | (go_at_call 11; (with_reducible refine (HR1.out _ _ Hp2.out).mono ?_); rintro e w3 ⟨rfl, hb⟩; have hb3 := hb; have Hk3 := Lib.hid (Hk2.out.below hb3 (Nat.le_refl _)); have Hp3 := Lib.hid (Hp2.out.below hb3 (Nat.le_refl _)); have Ha3 := Lib.hid (Ha2.out.below hb3 (Nat.le_refl _)); have Hb3 := Lib.hid (Hb2.out.below hb3 (Nat.le_refl _)); have Hs3 := Lib.hid (Hs2.out.below hb3 (Nat.le_refl _)); have HB3 := Lib.hid (below_add HB2.out hb3 HB2.out.size); clear hb hb3)
      | (go_at_call 13; (with_reducible refine (HC.out _ _ _ Hs3.out Hp3.out).mono ?_); rintro e w4 ⟨u4, rfl, ho, hb⟩; have hb4 := hb; have Hk4 := Lib.hid (Hk3.out.below hb4 (Nat.le_refl _)); have Hp4 := Lib.hid (Hp3.out.below hb4 (Nat.le_refl _)); have Ha4 := Lib.hid (Ha3.out.below hb4 (Nat.le_refl _)); have Hb4 := Lib.hid (Hb3.out.below hb4 (Nat.le_refl _)); have Hs4 := Lib.hid (Hs3.out.below hb4 (Nat.le_refl _)); have HB4 := Lib.hid (below_add HB3.out hb4 HB3.out.size); clear ho; clear hb hb4)
      | (go_at_call 14; (with_reducible refine (HSP.out _ _ _ Hs4.out Ha4.out).mono ?_); rintro e w5 ⟨u5, rfl, ho, hb⟩; have hb5 := hb; have Hk5 := Lib.hid (Hk4.out.below hb5 (Nat.le_refl _)); have Hp5 := Lib.hid (Hp4.out.below hb5 (Nat.le_refl _)); have Ha5 := Lib.hid (Ha4.out.below hb5 (Nat.le_refl _)); have Hb5 := Lib.hid (Hb4.out.below hb5 (Nat.le_refl _)); have Hs5 := Lib.hid (Hs4.out.below hb5 (Nat.le_refl _)); have HB5 := Lib.hid (below_add HB4.out hb5 HB4.out.size); clear ho; clear hb hb5)
      | (go_at_call 15; (with_reducible refine (HTY.out _ _ _ _ Hs5.out Ha5.out Hb5.out).mono ?_); rintro e w6 ⟨u6, rfl, ho, hb⟩; have hb6 := hb; have Hk6 := Lib.hid (Hk5.out.below hb6 (Nat.le_refl _)); have Hp6 := Lib.hid (Hp5.out.below hb6 (Nat.le_refl _)); have Ha6 := Lib.hid (Ha5.out.below hb6 (Nat.le_refl _)); have Hb6 := Lib.hid (Hb5.out.below hb6 (Nat.le_refl _)); have Hs6 := Lib.hid (Hs5.out.below hb6 (Nat.le_refl _)); have HB6 := Lib.hid (below_add HB5.out hb6 HB5.out.size); clear ho; clear hb hb6)
      | (go_at_call 16; (with_reducible refine (HSE.out _ _ _ Hs6.out Ha6.out).mono ?_); rintro e w7 ⟨u7, rfl, hb⟩; have hb7 := hb; have Hk7 := Lib.hid (Hk6.out.below hb7 (Nat.le_refl _)); have Hp7 := Lib.hid (Hp6.out.below hb7 (Nat.le_refl _)); have Ha7 := Lib.hid (Ha6.out.below hb7 (Nat.le_refl _)); have Hb7 := Lib.hid (Hb6.out.below hb7 (Nat.le_refl _)); have Hs7 := Lib.hid (Hs6.out.below hb7 (Nat.le_refl _)); have HB7 := Lib.hid (below_add HB6.out hb7 HB6.out.size); clear hb hb7)
      | (go_at_call 8; (with_reducible refine (HK.out _).mono ?_); rintro e w99 ⟨rfl, hb⟩; have HB99 := Lib.hid (below_add HB7.out hb HB7.out.size); clear hb))
    go_ret
    exact ⟨rfl, HB99.out⟩
  cases r2
  · clear hr1 hr2 hr3 hG
    go_enter Try.func3, Try.ntmps3
    go_wp2_with (first
      | (go_at_call 7; (with_reducible refine (HG.out).mono ?_); rintro e w1 ⟨rfl, hb⟩; have hb1 := hb; have Hk1 := Lib.hid (Hk0.out.below hb1 (Nat.le_refl _)); have Hp1 := Lib.hid (Hp0.out.below hb1 (Nat.le_refl _)); have Ha1 := Lib.hid (Ha0.out.below hb1 (Nat.le_refl _)); have Hb1 := Lib.hid (Hb0.out.below hb1 (Nat.le_refl _)); have HB1 := Lib.hid (below_add HB0.out hb1 HB0.out.size); clear hb hb1)
      | (go_at_call 9; (with_reducible refine (HN.out _ _ Hk1.out).mono ?_); rintro e w2 ⟨s2, rfl, hs, hb⟩; have hb2 := hb; have Hk2 := Lib.hid (Hk1.out.below hb2 (Nat.le_refl _)); have Hp2 := Lib.hid (Hp1.out.below hb2 (Nat.le_refl _)); have Ha2 := Lib.hid (Ha1.out.below hb2 (Nat.le_refl _)); have Hb2 := Lib.hid (Hb1.out.below hb2 (Nat.le_refl _)); have HB2 := Lib.hid (below_add HB1.out hb2 HB1.out.size); have Hs2 := Lib.hid (hs.out); clear hs; clear hb hb2)
      | (go_at_call 11; (with_reducible refine (HR1.out _ _ Hp2.out).mono ?_); rintro e w3 ⟨rfl, hb⟩; have hb3 := hb; have Hk3 := Lib.hid (Hk2.out.below hb3 (Nat.le_refl _)); have Hp3 := Lib.hid (Hp2.out.below hb3 (Nat.le_refl _)); have Ha3 := Lib.hid (Ha2.out.below hb3 (Nat.le_refl _)); have Hb3 := Lib.hid (Hb2.out.below hb3 (Nat.le_refl _)); have Hs3 := Lib.hid (Hs2.out.below hb3 (Nat.le_refl _)); have HB3 := Lib.hid (below_add HB2.out hb3 HB2.out.size); clear hb hb3)
      | (go_at_call 12; (with_reducible refine (HR2.out _ _ Ha3.out).mono ?_); rintro e w4 ⟨rfl, hb⟩; have hb4 := hb; have Hk4 := Lib.hid (Hk3.out.below hb4 (Nat.le_refl _)); have Hp4 := Lib.hid (Hp3.out.below hb4 (Nat.le_refl _)); have Ha4 := Lib.hid (Ha3.out.below hb4 (Nat.le_refl _)); have Hb4 := Lib.hid (Hb3.out.below hb4 (Nat.le_refl _)); have Hs4 := Lib.hid (Hs3.out.below hb4 (Nat.le_refl _)); have HB4 := Lib.hid (below_add HB3.out hb4 HB3.out.size); clear hb hb4)
      | (go_at_call 13; (with_reducible refine (HC.out _ _ _ Hs4.out Hp4.out).mono ?_); rintro e w5 ⟨u5, rfl, ho, hb⟩; have hb5 := hb; have Hk5 := Lib.hid (Hk4.out.below hb5 (Nat.le_refl _)); have Hp5 := Lib.hid (Hp4.out.below hb5 (Nat.le_refl _)); have Ha5 := Lib.hid (Ha4.out.below hb5 (Nat.le_refl _)); have Hb5 := Lib.hid (Hb4.out.below hb5 (Nat.le_refl _)); have Hs5 := Lib.hid (Hs4.out.below hb5 (Nat.le_refl _)); have HB5 := Lib.hid (below_add HB4.out hb5 HB4.out.size); clear ho; clear hb hb5)
      | (go_at_call 14; (with_reducible refine (HSP.out _ _ _ Hs5.out Ha5.out).mono ?_); rintro e w6 ⟨u6, rfl, ho, hb⟩; have hb6 := hb; have Hk6 := Lib.hid (Hk5.out.below hb6 (Nat.le_refl _)); have Hp6 := Lib.hid (Hp5.out.below hb6 (Nat.le_refl _)); have Ha6 := Lib.hid (Ha5.out.below hb6 (Nat.le_refl _)); have Hb6 := Lib.hid (Hb5.out.below hb6 (Nat.le_refl _)); have Hs6 := Lib.hid (Hs5.out.below hb6 (Nat.le_refl _)); have HB6 := Lib.hid (below_add HB5.out hb6 HB5.out.size); clear ho; clear hb hb6)
      | (go_at_call 15; (with_reducible refine (HTY.out _ _ _ _ Hs6.out Ha6.out Hb6.out).mono ?_); rintro e w7 ⟨u7, rfl, ho, hb⟩; have hb7 := hb; have Hk7 := Lib.hid (Hk6.out.below hb7 (Nat.le_refl _)); have Hp7 := Lib.hid (Hp6.out.below hb7 (Nat.le_refl _)); have Ha7 := Lib.hid (Ha6.out.below hb7 (Nat.le_refl _)); have Hb7 := Lib.hid (Hb6.out.below hb7 (Nat.le_refl _)); have Hs7 := Lib.hid (Hs6.out.below hb7 (Nat.le_refl _)); have HB7 := Lib.hid (below_add HB6.out hb7 HB6.out.size); clear ho; clear hb hb7)
      | (go_at_call 16; (with_reducible refine (HSE.out _ _ _ Hs7.out Ha7.out).mono ?_); rintro e w8 ⟨u8, rfl, hb⟩; have hb8 := hb; have Hk8 := Lib.hid (Hk7.out.below hb8 (Nat.le_refl _)); have Hp8 := Lib.hid (Hp7.out.below hb8 (Nat.le_refl _)); have Ha8 := Lib.hid (Ha7.out.below hb8 (Nat.le_refl _)); have Hb8 := Lib.hid (Hb7.out.below hb8 (Nat.le_refl _)); have Hs8 := Lib.hid (Hs7.out.below hb8 (Nat.le_refl _)); have HB8 := Lib.hid (below_add HB7.out hb8 HB7.out.size); clear hb hb8)
      | (go_at_call 8; (with_reducible refine (HK.out _).mono ?_); rintro e w99 ⟨rfl, hb⟩; have HB99 := Lib.hid (below_add HB8.out hb HB8.out.size); clear hb))
    go_ret
    exact ⟨rfl, HB99.out⟩
  cases r3
  · clear hr1 hr2 hr3 hG
    go_enter Try.func3, Try.ntmps3
    go_wp2_with (first
      | (go_at_call 7; (with_reducible refine (HG.out).mono ?_); rintro e w1 ⟨rfl, hb⟩; have hb1 := hb; have Hk1 := Lib.hid (Hk0.out.below hb1 (Nat.le_refl _)); have Hp1 := Lib.hid (Hp0.out.below hb1 (Nat.le_refl _)); have Ha1 := Lib.hid (Ha0.out.below hb1 (Nat.le_refl _)); have Hb1 := Lib.hid (Hb0.out.below hb1 (Nat.le_refl _)); have HB1 := Lib.hid (below_add HB0.out hb1 HB0.out.size); clear hb hb1)
      | (go_at_call 9; (with_reducible refine (HN.out _ _ Hk1.out).mono ?_); rintro e w2 ⟨s2, rfl, hs, hb⟩; have hb2 := hb; have Hk2 := Lib.hid (Hk1.out.below hb2 (Nat.le_refl _)); have Hp2 := Lib.hid (Hp1.out.below hb2 (Nat.le_refl _)); have Ha2 := Lib.hid (Ha1.out.below hb2 (Nat.le_refl _)); have Hb2 := Lib.hid (Hb1.out.below hb2 (Nat.le_refl _)); have HB2 := Lib.hid (below_add HB1.out hb2 HB1.out.size); have Hs2 := Lib.hid (hs.out); clear hs; clear hb hb2)
      | (go_at_call 11; (with_reducible refine (HR1.out _ _ Hp2.out).mono ?_); rintro e w3 ⟨rfl, hb⟩; have hb3 := hb; have Hk3 := Lib.hid (Hk2.out.below hb3 (Nat.le_refl _)); have Hp3 := Lib.hid (Hp2.out.below hb3 (Nat.le_refl _)); have Ha3 := Lib.hid (Ha2.out.below hb3 (Nat.le_refl _)); have Hb3 := Lib.hid (Hb2.out.below hb3 (Nat.le_refl _)); have Hs3 := Lib.hid (Hs2.out.below hb3 (Nat.le_refl _)); have HB3 := Lib.hid (below_add HB2.out hb3 HB2.out.size); clear hb hb3)
      | (go_at_call 12; (with_reducible refine (HR2.out _ _ Ha3.out).mono ?_); rintro e w4 ⟨rfl, hb⟩; have hb4 := hb; have Hk4 := Lib.hid (Hk3.out.below hb4 (Nat.le_refl _)); have Hp4 := Lib.hid (Hp3.out.below hb4 (Nat.le_refl _)); have Ha4 := Lib.hid (Ha3.out.below hb4 (Nat.le_refl _)); have Hb4 := Lib.hid (Hb3.out.below hb4 (Nat.le_refl _)); have Hs4 := Lib.hid (Hs3.out.below hb4 (Nat.le_refl _)); have HB4 := Lib.hid (below_add HB3.out hb4 HB3.out.size); clear hb hb4)
      | (go_at_call 12; (with_reducible refine (HR3.out _ _ Hb4.out).mono ?_); rintro e w5 ⟨rfl, hb⟩; have hb5 := hb; have Hk5 := Lib.hid (Hk4.out.below hb5 (Nat.le_refl _)); have Hp5 := Lib.hid (Hp4.out.below hb5 (Nat.le_refl _)); have Ha5 := Lib.hid (Ha4.out.below hb5 (Nat.le_refl _)); have Hb5 := Lib.hid (Hb4.out.below hb5 (Nat.le_refl _)); have Hs5 := Lib.hid (Hs4.out.below hb5 (Nat.le_refl _)); have HB5 := Lib.hid (below_add HB4.out hb5 HB4.out.size); clear hb hb5)
      | (go_at_call 13; (with_reducible refine (HC.out _ _ _ Hs5.out Hp5.out).mono ?_); rintro e w6 ⟨u6, rfl, ho, hb⟩; have hb6 := hb; have Hk6 := Lib.hid (Hk5.out.below hb6 (Nat.le_refl _)); have Hp6 := Lib.hid (Hp5.out.below hb6 (Nat.le_refl _)); have Ha6 := Lib.hid (Ha5.out.below hb6 (Nat.le_refl _)); have Hb6 := Lib.hid (Hb5.out.below hb6 (Nat.le_refl _)); have Hs6 := Lib.hid (Hs5.out.below hb6 (Nat.le_refl _)); have HB6 := Lib.hid (below_add HB5.out hb6 HB5.out.size); clear ho; clear hb hb6)
      | (go_at_call 14; (with_reducible refine (HSP.out _ _ _ Hs6.out Ha6.out).mono ?_); rintro e w7 ⟨u7, rfl, ho, hb⟩; have hb7 := hb; have Hk7 := Lib.hid (Hk6.out.below hb7 (Nat.le_refl _)); have Hp7 := Lib.hid (Hp6.out.below hb7 (Nat.le_refl _)); have Ha7 := Lib.hid (Ha6.out.below hb7 (Nat.le_refl _)); have Hb7 := Lib.hid (Hb6.out.below hb7 (Nat.le_refl _)); have Hs7 := Lib.hid (Hs6.out.below hb7 (Nat.le_refl _)); have HB7 := Lib.hid (below_add HB6.out hb7 HB6.out.size); clear ho; clear hb hb7)
      | (go_at_call 15; (with_reducible refine (HTY.out _ _ _ _ Hs7.out Ha7.out Hb7.out).mono ?_); rintro e w8 ⟨u8, rfl, ho, hb⟩; have hb8 := hb; have Hk8 := Lib.hid (Hk7.out.below hb8 (Nat.le_refl _)); have Hp8 := Lib.hid (Hp7.out.below hb8 (Nat.le_refl _)); have Ha8 := Lib.hid (Ha7.out.below hb8 (Nat.le_refl _)); have Hb8 := Lib.hid (Hb7.out.below hb8 (Nat.le_refl _)); have Hs8 := Lib.hid (Hs7.out.below hb8 (Nat.le_refl _)); have HB8 := Lib.hid (below_add HB7.out hb8 HB7.out.size); clear ho; clear hb hb8)
      | (go_at_call 16; (with_reducible refine (HSE.out _ _ _ Hs8.out Ha8.out).mono ?_); rintro e w9 ⟨u9, rfl, hb⟩; have hb9 := hb; have Hk9 := Lib.hid (Hk8.out.below hb9 (Nat.le_refl _)); have Hp9 := Lib.hid (Hp8.out.below hb9 (Nat.le_refl _)); have Ha9 := Lib.hid (Ha8.out.below hb9 (Nat.le_refl _)); have Hb9 := Lib.hid (Hb8.out.below hb9 (Nat.le_refl _)); have Hs9 := Lib.hid (Hs8.out.below hb9 (Nat.le_refl _)); have HB9 := Lib.hid (below_add HB8.out hb9 HB8.out.size); clear hb hb9)
      | (go_at_call 8; (with_reducible refine (HK.out _).mono ?_); rintro e w99 ⟨rfl, hb⟩; have HB99 := Lib.hid (below_add HB9.out hb HB9.out.size); clear hb))
    go_ret
    exact ⟨rfl, HB99.out⟩
  have rp := of_decide_eq_true hr1
  have ra := of_decide_eq_true hr2
  have rb := of_decide_eq_true hr3
  obtain ⟨ce, hce⟩ : ∃ x, cE ks p = x := ⟨_, rfl⟩
  obtain ⟨cl, hcl⟩ : ∃ x, cL ks p = x := ⟨_, rfl⟩
  obtain ⟨se, hse⟩ : ∃ x, sE ks key = x := ⟨_, rfl⟩
  obtain ⟨sl, hsl⟩ : ∃ x, sL ks a key (stepV (numN a key) by_) = x := ⟨_, rfl⟩
  have HC := Lib.hid (fun v u W h h' => complete_h ks p cl ce hce hcl y1 (by omega) v u W h h')
  have HRC := Lib.hid (fun v u W h h' => rcomplete_h ks p cl ce hce hcl hk64 hG rp (by omega) v u W h h')
  have HST := Lib.hid (fun v u W h h' => step_h ks a key by_ ra (by omega) hwf _ rfl se hse sl hsl v u W h h')
  have HRS := Lib.hid (fun v u W h h' => rstep_h ks a key by_ ra (by omega) hk64 hG se hse sl hsl v u W h h')
  have HRP := Lib.hid (fun v u W h h' => rsplit_h ks a (only ks fS a) rfl (by omega) v u W h h')
  have HRT := Lib.hid (fun v x y W h h' h'' => rtyped_h ks a b (typ ks a b) rfl ra rb (by omega) v x y W h h' h'')
  have HM1 := Lib.hid (fun x y W h h' => rsameC6_h cl cl true (by simp) x y W h h')
  have HM2 := Lib.hid (fun x y W h h' => rsameC6_h sl sl true (by simp) x y W h h')
  have HM3 := Lib.hid (fun x y W h h' => rsameA_h (only ks fS a) (only ks fS a) true (by simp) x y W h h')
  have HM4 := Lib.hid (fun x y W h h' => rsameA_h (typ ks a b) (typ ks a b) true (by simp) x y W h h')
  have HMp := Lib.hid (fun x y W h h' => rsameC6_h p p true (by simp) x y W h h')
  have HMa := Lib.hid (fun x y W h h' => rsameA_h a a true (by simp) x y W h h')
  have HMb := Lib.hid (fun x y W h h' => rsameA_h b b true (by simp) x y W h h')
  obtain ⟨i0, hi, hz0, hz1, hz2⟩ := info_ch
  obtain ⟨j0, hj, hy0, hy1, hy2⟩ := info_at
  have e1 : (ce != ce) = false := by simp
  have e2 : (se != se) = false := by simp
  clear hr1 hr2 hr3 hG rp ra rb hce hcl hse hsl y1 y2 y3 HSE hwf
  go_enter Try.func3, Try.ntmps3
  go_wp2_with (first
    | (go_at_call 7; (with_reducible refine (HG.out).mono ?_); rintro e w1 ⟨rfl, hb⟩; have hb1 := hb; have Hk1 := Lib.hid (Hk0.out.below hb1 (Nat.le_refl _)); have Hp1 := Lib.hid (Hp0.out.below hb1 (Nat.le_refl _)); have Ha1 := Lib.hid (Ha0.out.below hb1 (Nat.le_refl _)); have Hb1 := Lib.hid (Hb0.out.below hb1 (Nat.le_refl _)); have HB1 := Lib.hid (below_add HB0.out hb1 HB0.out.size); clear hb hb1)
    | (go_at_call 9; (with_reducible refine (HN.out _ _ Hk1.out).mono ?_); rintro e w2 ⟨s2, rfl, hs, hb⟩; have hb2 := hb; have Hk2 := Lib.hid (Hk1.out.below hb2 (Nat.le_refl _)); have Hp2 := Lib.hid (Hp1.out.below hb2 (Nat.le_refl _)); have Ha2 := Lib.hid (Ha1.out.below hb2 (Nat.le_refl _)); have Hb2 := Lib.hid (Hb1.out.below hb2 (Nat.le_refl _)); have HB2 := Lib.hid (below_add HB1.out hb2 HB1.out.size); have Hs2 := Lib.hid (hs.out); clear hs; clear hb hb2)
    | (go_at_call 11; (with_reducible refine (HR1.out _ _ Hp2.out).mono ?_); rintro e w3 ⟨rfl, hb⟩; have hb3 := hb; have Hk3 := Lib.hid (Hk2.out.below hb3 (Nat.le_refl _)); have Hp3 := Lib.hid (Hp2.out.below hb3 (Nat.le_refl _)); have Ha3 := Lib.hid (Ha2.out.below hb3 (Nat.le_refl _)); have Hb3 := Lib.hid (Hb2.out.below hb3 (Nat.le_refl _)); have Hs3 := Lib.hid (Hs2.out.below hb3 (Nat.le_refl _)); have HB3 := Lib.hid (below_add HB2.out hb3 HB2.out.size); clear hb hb3)
    | (go_at_call 12; (with_reducible refine (HR2.out _ _ Ha3.out).mono ?_); rintro e w4 ⟨rfl, hb⟩; have hb4 := hb; have Hk4 := Lib.hid (Hk3.out.below hb4 (Nat.le_refl _)); have Hp4 := Lib.hid (Hp3.out.below hb4 (Nat.le_refl _)); have Ha4 := Lib.hid (Ha3.out.below hb4 (Nat.le_refl _)); have Hb4 := Lib.hid (Hb3.out.below hb4 (Nat.le_refl _)); have Hs4 := Lib.hid (Hs3.out.below hb4 (Nat.le_refl _)); have HB4 := Lib.hid (below_add HB3.out hb4 HB3.out.size); clear hb hb4)
    | (go_at_call 12; (with_reducible refine (HR3.out _ _ Hb4.out).mono ?_); rintro e w5 ⟨rfl, hb⟩; have hb5 := hb; have Hk5 := Lib.hid (Hk4.out.below hb5 (Nat.le_refl _)); have Hp5 := Lib.hid (Hp4.out.below hb5 (Nat.le_refl _)); have Ha5 := Lib.hid (Ha4.out.below hb5 (Nat.le_refl _)); have Hb5 := Lib.hid (Hb4.out.below hb5 (Nat.le_refl _)); have Hs5 := Lib.hid (Hs4.out.below hb5 (Nat.le_refl _)); have HB5 := Lib.hid (below_add HB4.out hb5 HB4.out.size); clear hb hb5)
    | (at_builtin; refine wpList_append_row (C := chC) rfl (.tmp 76) (.tmp 77) 23 rfl w5.heap.size 49 i0 (cv noChg) 56 Try.underlying23 hi hz0 hz1 hz2 rfl _ _ _ rfl (own_none w5 _ _) _ p rfl (Hp5.out.below (kbelow_one w5 _) (Nat.le_refl _)) (by unfold maxLen; simp; omega) (by simp; omega) (by simp) ?_; intro u6 w6 hown hgrow; have hb6 := grown_app hgrow; have Hk6 := Lib.hid (Hk5.out.below hb6 (Nat.le_refl _)); have Hp6 := Lib.hid (Hp5.out.below hb6 (Nat.le_refl _)); have Ha6 := Lib.hid (Ha5.out.below hb6 (Nat.le_refl _)); have Hb6 := Lib.hid (Hb5.out.below hb6 (Nat.le_refl _)); have Hs6 := Lib.hid (Hs5.out.below hb6 (Nat.le_refl _)); have HB6 := Lib.hid (below_add HB5.out hb6 HB5.out.size); have Hq6 := Lib.hid (row_app (C := chC) hown); clear hown hgrow hb6)
    | (at_builtin; refine wpList_append_row (C := attC) rfl (.tmp 79) (.tmp 80) 24 rfl w6.heap.size 64 j0 (av noAtt) 48 Try.underlying24 hj hy0 hy1 hy2 rfl _ _ _ rfl (own_none w6 _ _) _ a rfl (Ha6.out.below (kbelow_one w6 _) (Nat.le_refl _)) (by unfold maxLen; simp; omega) (by simp; omega) (by simp) ?_; intro u7 w7 hown hgrow; have hb7 := grown_app hgrow; have Hk7 := Lib.hid (Hk6.out.below hb7 (Nat.le_refl _)); have Hp7 := Lib.hid (Hp6.out.below hb7 (Nat.le_refl _)); have Ha7 := Lib.hid (Ha6.out.below hb7 (Nat.le_refl _)); have Hb7 := Lib.hid (Hb6.out.below hb7 (Nat.le_refl _)); have Hs7 := Lib.hid (Hs6.out.below hb7 (Nat.le_refl _)); have Hq7 := Lib.hid (Hq6.out.below hb7 (Nat.le_refl _)); have HB7 := Lib.hid (below_add HB6.out hb7 HB6.out.size); have Hc7 := Lib.hid (row_app (C := attC) hown); clear hown hgrow hb7)
    | (at_builtin; refine wpList_append_row (C := attC) rfl (.tmp 82) (.tmp 83) 24 rfl w7.heap.size 64 j0 (av noAtt) 48 Try.underlying24 hj hy0 hy1 hy2 rfl _ _ _ rfl (own_none w7 _ _) _ b rfl (Hb7.out.below (kbelow_one w7 _) (Nat.le_refl _)) (by unfold maxLen; simp; omega) (by simp; omega) (by simp) ?_; intro u8 w8 hown hgrow; have hb8 := grown_app hgrow; have Hk8 := Lib.hid (Hk7.out.below hb8 (Nat.le_refl _)); have Hp8 := Lib.hid (Hp7.out.below hb8 (Nat.le_refl _)); have Ha8 := Lib.hid (Ha7.out.below hb8 (Nat.le_refl _)); have Hb8 := Lib.hid (Hb7.out.below hb8 (Nat.le_refl _)); have Hs8 := Lib.hid (Hs7.out.below hb8 (Nat.le_refl _)); have Hq8 := Lib.hid (Hq7.out.below hb8 (Nat.le_refl _)); have Hc8 := Lib.hid (Hc7.out.below hb8 (Nat.le_refl _)); have HB8 := Lib.hid (below_add HB7.out hb8 HB7.out.size); have Hd8 := Lib.hid (row_app (C := attC) hown); clear hown hgrow hb8)
    | (go_at_call 13; (with_reducible refine (HC.out _ _ _ Hs8.out Hq8.out).mono ?_); rintro e w9 ⟨u9, rfl, ho, hb⟩; have hb9 := hb; have Hk9 := Lib.hid (Hk8.out.below hb9 (Nat.le_refl _)); have Hp9 := Lib.hid (Hp8.out.below hb9 (Nat.le_refl _)); have Ha9 := Lib.hid (Ha8.out.below hb9 (Nat.le_refl _)); have Hb9 := Lib.hid (Hb8.out.below hb9 (Nat.le_refl _)); have Hs9 := Lib.hid (Hs8.out.below hb9 (Nat.le_refl _)); have Hq9 := Lib.hid (Hq8.out.below hb9 (Nat.le_refl _)); have Hc9 := Lib.hid (Hc8.out.below hb9 (Nat.le_refl _)); have Hd9 := Lib.hid (Hd8.out.below hb9 (Nat.le_refl _)); have HB9 := Lib.hid (below_add HB8.out hb9 HB8.out.size); have Hx9 := Lib.hid (own6_row ho.out); have HZ9 := Lib.hid hb9; have HO9 := ho; obtain ⟨xa, xc, hxe⟩ := Hx9.out.shape; subst hxe; clear ho; clear hb hb9)
    | (go_at_call 17; (with_reducible refine (HRC.out _ _ _ Hk9.out Hp9.out).mono ?_); rintro e w10 ⟨u10, rfl, ho, hb⟩; have hb10 := hb; have Hk10 := Lib.hid (Hk9.out.below hb10 (Nat.le_refl _)); have Hp10 := Lib.hid (Hp9.out.below hb10 (Nat.le_refl _)); have Ha10 := Lib.hid (Ha9.out.below hb10 (Nat.le_refl _)); have Hb10 := Lib.hid (Hb9.out.below hb10 (Nat.le_refl _)); have Hs10 := Lib.hid (Hs9.out.below hb10 (Nat.le_refl _)); have Hq10 := Lib.hid (Hq9.out.below hb10 (Nat.le_refl _)); have Hc10 := Lib.hid (Hc9.out.below hb10 (Nat.le_refl _)); have Hd10 := Lib.hid (Hd9.out.below hb10 (Nat.le_refl _)); have Hx10 := Lib.hid (Hx9.out.below hb10 (Nat.le_refl _)); have HB10 := Lib.hid (below_add HB9.out hb10 HB9.out.size); have HZ10 := Lib.hid (below_add HZ9.out hb10 HZ9.out.size); have HO10 := Lib.hid (owns_below HO9.out hb10); have Hy10 := Lib.hid (ho.out); clear ho; clear hb hb10)
    | (go_at_call 16; (with_reducible refine (HST.out _ _ _ Hs10.out Hc10.out).mono ?_); rintro e w11 ⟨u11, rfl, ho, hb⟩; have hb11 := hb; have Hk11 := Lib.hid (Hk10.out.below hb11 (Nat.le_refl _)); have Hp11 := Lib.hid (Hp10.out.below hb11 (Nat.le_refl _)); have Ha11 := Lib.hid (Ha10.out.below hb11 (Nat.le_refl _)); have Hb11 := Lib.hid (Hb10.out.below hb11 (Nat.le_refl _)); have Hs11 := Lib.hid (Hs10.out.below hb11 (Nat.le_refl _)); have Hq11 := Lib.hid (Hq10.out.below hb11 (Nat.le_refl _)); have Hc11 := Lib.hid (Hc10.out.below hb11 (Nat.le_refl _)); have Hd11 := Lib.hid (Hd10.out.below hb11 (Nat.le_refl _)); have Hx11 := Lib.hid (Hx10.out.below hb11 (Nat.le_refl _)); have Hy11 := Lib.hid (Hy10.out.below hb11 (Nat.le_refl _)); have HB11 := Lib.hid (below_add HB10.out hb11 HB10.out.size); have HZ11 := Lib.hid (below_add HZ10.out hb11 HZ10.out.size); have HO11 := Lib.hid (owns_below HO10.out hb11); have Hu11 := Lib.hid (own6_row ho.out); clear ho; clear hb hb11)
    | (go_at_call 18; (with_reducible refine (HRS.out _ _ _ Hk11.out Ha11.out).mono ?_); rintro e w12 ⟨u12, rfl, ho, hb⟩; have hb12 := hb; have Hk12 := Lib.hid (Hk11.out.below hb12 (Nat.le_refl _)); have Hp12 := Lib.hid (Hp11.out.below hb12 (Nat.le_refl _)); have Ha12 := Lib.hid (Ha11.out.below hb12 (Nat.le_refl _)); have Hb12 := Lib.hid (Hb11.out.below hb12 (Nat.le_refl _)); have Hs12 := Lib.hid (Hs11.out.below hb12 (Nat.le_refl _)); have Hq12 := Lib.hid (Hq11.out.below hb12 (Nat.le_refl _)); have Hc12 := Lib.hid (Hc11.out.below hb12 (Nat.le_refl _)); have Hd12 := Lib.hid (Hd11.out.below hb12 (Nat.le_refl _)); have Hx12 := Lib.hid (Hx11.out.below hb12 (Nat.le_refl _)); have Hy12 := Lib.hid (Hy11.out.below hb12 (Nat.le_refl _)); have Hu12 := Lib.hid (Hu11.out.below hb12 (Nat.le_refl _)); have HB12 := Lib.hid (below_add HB11.out hb12 HB11.out.size); have HZ12 := Lib.hid (below_add HZ11.out hb12 HZ11.out.size); have HO12 := Lib.hid (owns_below HO11.out hb12); have Hv12 := Lib.hid (ho.out); clear ho; clear hb hb12)
    | (go_at_call 19; (with_reducible refine (HM1.out _ _ _ Hx12.out Hy12.out).mono ?_); rintro e w13 ⟨rfl, hb⟩; have hb13 := hb; have Hk13 := Lib.hid (Hk12.out.below hb13 (Nat.le_refl _)); have Hp13 := Lib.hid (Hp12.out.below hb13 (Nat.le_refl _)); have Ha13 := Lib.hid (Ha12.out.below hb13 (Nat.le_refl _)); have Hb13 := Lib.hid (Hb12.out.below hb13 (Nat.le_refl _)); have Hs13 := Lib.hid (Hs12.out.below hb13 (Nat.le_refl _)); have Hq13 := Lib.hid (Hq12.out.below hb13 (Nat.le_refl _)); have Hc13 := Lib.hid (Hc12.out.below hb13 (Nat.le_refl _)); have Hd13 := Lib.hid (Hd12.out.below hb13 (Nat.le_refl _)); have Hx13 := Lib.hid (Hx12.out.below hb13 (Nat.le_refl _)); have Hy13 := Lib.hid (Hy12.out.below hb13 (Nat.le_refl _)); have Hu13 := Lib.hid (Hu12.out.below hb13 (Nat.le_refl _)); have Hv13 := Lib.hid (Hv12.out.below hb13 (Nat.le_refl _)); have HB13 := Lib.hid (below_add HB12.out hb13 HB12.out.size); have HZ13 := Lib.hid (below_add HZ12.out hb13 HZ12.out.size); have HO13 := Lib.hid (owns_below HO12.out hb13); clear hb hb13)
    | (go_at_call 19; (with_reducible refine (HM2.out _ _ _ Hu13.out Hv13.out).mono ?_); rintro e w14 ⟨rfl, hb⟩; have hb14 := hb; have Hk14 := Lib.hid (Hk13.out.below hb14 (Nat.le_refl _)); have Hp14 := Lib.hid (Hp13.out.below hb14 (Nat.le_refl _)); have Ha14 := Lib.hid (Ha13.out.below hb14 (Nat.le_refl _)); have Hb14 := Lib.hid (Hb13.out.below hb14 (Nat.le_refl _)); have Hs14 := Lib.hid (Hs13.out.below hb14 (Nat.le_refl _)); have Hq14 := Lib.hid (Hq13.out.below hb14 (Nat.le_refl _)); have Hc14 := Lib.hid (Hc13.out.below hb14 (Nat.le_refl _)); have Hd14 := Lib.hid (Hd13.out.below hb14 (Nat.le_refl _)); have Hx14 := Lib.hid (Hx13.out.below hb14 (Nat.le_refl _)); have Hy14 := Lib.hid (Hy13.out.below hb14 (Nat.le_refl _)); have Hu14 := Lib.hid (Hu13.out.below hb14 (Nat.le_refl _)); have Hv14 := Lib.hid (Hv13.out.below hb14 (Nat.le_refl _)); have HB14 := Lib.hid (below_add HB13.out hb14 HB13.out.size); have HZ14 := Lib.hid (below_add HZ13.out hb14 HZ13.out.size); have HO14 := Lib.hid (owns_below HO13.out hb14); clear hb hb14)
    | (go_at_call 14; (with_reducible refine (HSP.out _ _ _ Hs14.out Hc14.out).mono ?_); rintro e w15 ⟨u15, rfl, ho, hb⟩; have hb15 := hb; have Hk15 := Lib.hid (Hk14.out.below hb15 (Nat.le_refl _)); have Hp15 := Lib.hid (Hp14.out.below hb15 (Nat.le_refl _)); have Ha15 := Lib.hid (Ha14.out.below hb15 (Nat.le_refl _)); have Hb15 := Lib.hid (Hb14.out.below hb15 (Nat.le_refl _)); have Hs15 := Lib.hid (Hs14.out.below hb15 (Nat.le_refl _)); have Hq15 := Lib.hid (Hq14.out.below hb15 (Nat.le_refl _)); have Hc15 := Lib.hid (Hc14.out.below hb15 (Nat.le_refl _)); have Hd15 := Lib.hid (Hd14.out.below hb15 (Nat.le_refl _)); have Hx15 := Lib.hid (Hx14.out.below hb15 (Nat.le_refl _)); have HB15 := Lib.hid (below_add HB14.out hb15 HB14.out.size); have HZ15 := Lib.hid (below_add HZ14.out hb15 HZ14.out.size); have HO15 := Lib.hid (owns_below HO14.out hb15); have He15 := Lib.hid (ho.out); clear ho; clear hb hb15)
    | (go_at_call 21; (with_reducible refine (HRP.out _ _ _ Hk15.out Ha15.out).mono ?_); rintro e w16 ⟨u16, rfl, ho, hb⟩; have hb16 := hb; have Hk16 := Lib.hid (Hk15.out.below hb16 (Nat.le_refl _)); have Hp16 := Lib.hid (Hp15.out.below hb16 (Nat.le_refl _)); have Ha16 := Lib.hid (Ha15.out.below hb16 (Nat.le_refl _)); have Hb16 := Lib.hid (Hb15.out.below hb16 (Nat.le_refl _)); have Hs16 := Lib.hid (Hs15.out.below hb16 (Nat.le_refl _)); have Hq16 := Lib.hid (Hq15.out.below hb16 (Nat.le_refl _)); have Hc16 := Lib.hid (Hc15.out.below hb16 (Nat.le_refl _)); have Hd16 := Lib.hid (Hd15.out.below hb16 (Nat.le_refl _)); have Hx16 := Lib.hid (Hx15.out.below hb16 (Nat.le_refl _)); have He16 := Lib.hid (He15.out.below hb16 (Nat.le_refl _)); have HB16 := Lib.hid (below_add HB15.out hb16 HB15.out.size); have HZ16 := Lib.hid (below_add HZ15.out hb16 HZ15.out.size); have HO16 := Lib.hid (owns_below HO15.out hb16); have Hf16 := Lib.hid (ho.out); clear ho; clear hb hb16)
    | (go_at_call 20; (with_reducible refine (HM3.out _ _ _ He16.out Hf16.out).mono ?_); rintro e w17 ⟨rfl, hb⟩; have hb17 := hb; have Hk17 := Lib.hid (Hk16.out.below hb17 (Nat.le_refl _)); have Hp17 := Lib.hid (Hp16.out.below hb17 (Nat.le_refl _)); have Ha17 := Lib.hid (Ha16.out.below hb17 (Nat.le_refl _)); have Hb17 := Lib.hid (Hb16.out.below hb17 (Nat.le_refl _)); have Hs17 := Lib.hid (Hs16.out.below hb17 (Nat.le_refl _)); have Hq17 := Lib.hid (Hq16.out.below hb17 (Nat.le_refl _)); have Hc17 := Lib.hid (Hc16.out.below hb17 (Nat.le_refl _)); have Hd17 := Lib.hid (Hd16.out.below hb17 (Nat.le_refl _)); have Hx17 := Lib.hid (Hx16.out.below hb17 (Nat.le_refl _)); have He17 := Lib.hid (He16.out.below hb17 (Nat.le_refl _)); have Hf17 := Lib.hid (Hf16.out.below hb17 (Nat.le_refl _)); have HB17 := Lib.hid (below_add HB16.out hb17 HB16.out.size); have HZ17 := Lib.hid (below_add HZ16.out hb17 HZ16.out.size); have HO17 := Lib.hid (owns_below HO16.out hb17); clear hb hb17)
    | (go_at_call 15; (with_reducible refine (HTY.out _ _ _ _ Hs17.out Hc17.out Hd17.out).mono ?_); rintro e w18 ⟨u18, rfl, ho, hb⟩; have hb18 := hb; have Hk18 := Lib.hid (Hk17.out.below hb18 (Nat.le_refl _)); have Hp18 := Lib.hid (Hp17.out.below hb18 (Nat.le_refl _)); have Ha18 := Lib.hid (Ha17.out.below hb18 (Nat.le_refl _)); have Hb18 := Lib.hid (Hb17.out.below hb18 (Nat.le_refl _)); have Hs18 := Lib.hid (Hs17.out.below hb18 (Nat.le_refl _)); have Hq18 := Lib.hid (Hq17.out.below hb18 (Nat.le_refl _)); have Hc18 := Lib.hid (Hc17.out.below hb18 (Nat.le_refl _)); have Hd18 := Lib.hid (Hd17.out.below hb18 (Nat.le_refl _)); have Hx18 := Lib.hid (Hx17.out.below hb18 (Nat.le_refl _)); have HB18 := Lib.hid (below_add HB17.out hb18 HB17.out.size); have HZ18 := Lib.hid (below_add HZ17.out hb18 HZ17.out.size); have HO18 := Lib.hid (owns_below HO17.out hb18); have He18 := Lib.hid (ho.out); clear ho; clear hb hb18)
    | (go_at_call 22; (with_reducible refine (HRT.out _ _ _ _ Hk18.out Ha18.out Hb18.out).mono ?_); rintro e w19 ⟨u19, rfl, ho, hb⟩; have hb19 := hb; have Hk19 := Lib.hid (Hk18.out.below hb19 (Nat.le_refl _)); have Hp19 := Lib.hid (Hp18.out.below hb19 (Nat.le_refl _)); have Ha19 := Lib.hid (Ha18.out.below hb19 (Nat.le_refl _)); have Hb19 := Lib.hid (Hb18.out.below hb19 (Nat.le_refl _)); have Hs19 := Lib.hid (Hs18.out.below hb19 (Nat.le_refl _)); have Hq19 := Lib.hid (Hq18.out.below hb19 (Nat.le_refl _)); have Hc19 := Lib.hid (Hc18.out.below hb19 (Nat.le_refl _)); have Hd19 := Lib.hid (Hd18.out.below hb19 (Nat.le_refl _)); have Hx19 := Lib.hid (Hx18.out.below hb19 (Nat.le_refl _)); have He19 := Lib.hid (He18.out.below hb19 (Nat.le_refl _)); have HB19 := Lib.hid (below_add HB18.out hb19 HB18.out.size); have HZ19 := Lib.hid (below_add HZ18.out hb19 HZ18.out.size); have HO19 := Lib.hid (owns_below HO18.out hb19); have Hf19 := Lib.hid (ho.out); clear ho; clear hb hb19)
    | (go_at_call 20; (with_reducible refine (HM4.out _ _ _ He19.out Hf19.out).mono ?_); rintro e w20 ⟨rfl, hb⟩; have hb20 := hb; have Hk20 := Lib.hid (Hk19.out.below hb20 (Nat.le_refl _)); have Hp20 := Lib.hid (Hp19.out.below hb20 (Nat.le_refl _)); have Ha20 := Lib.hid (Ha19.out.below hb20 (Nat.le_refl _)); have Hb20 := Lib.hid (Hb19.out.below hb20 (Nat.le_refl _)); have Hs20 := Lib.hid (Hs19.out.below hb20 (Nat.le_refl _)); have Hq20 := Lib.hid (Hq19.out.below hb20 (Nat.le_refl _)); have Hc20 := Lib.hid (Hc19.out.below hb20 (Nat.le_refl _)); have Hd20 := Lib.hid (Hd19.out.below hb20 (Nat.le_refl _)); have Hx20 := Lib.hid (Hx19.out.below hb20 (Nat.le_refl _)); have He20 := Lib.hid (He19.out.below hb20 (Nat.le_refl _)); have Hf20 := Lib.hid (Hf19.out.below hb20 (Nat.le_refl _)); have HB20 := Lib.hid (below_add HB19.out hb20 HB19.out.size); have HZ20 := Lib.hid (below_add HZ19.out hb20 HZ19.out.size); have HO20 := Lib.hid (owns_below HO19.out hb20); clear hb hb20))
  clear HC HRC HST HRS HSP HRP HTY HRT HM1 HM2 HM3 HM4 HN HG HR1 HR2 HR3
  have HW0 := Lib.hid (WX.of_own HO20.out)
  have hcll := Hx20.out.len
  go_loopw [157] (fun s157 wr => ∃ j : Nat, j ≤ cl.length ∧ s157 = .int .i64 j ∧ Hid (Below w8.heap.size w20 wr ∧ WX (.slice xa cl.length xc) (cl.length * 6) wr)) (fun s157 _ => cl.length - (intOf s157).toNat)
  case atStart => exact ⟨0, Nat.zero_le _, rfl, Lib.hid ⟨Below.refl _ _, HW0.out⟩⟩
  case round =>
    obtain ⟨j, hj, rfl, HR⟩ := hrel
    by_cases hlt : j < cl.length
    · obtain ⟨gx, rfl⟩ := own_zero HO20.out (by omega)
      obtain ⟨⟨vx, hvx⟩, hfx⟩ := HR.out.2.cell rfl (i := j * 6) (by omega)
      have HNX := Lib.hid (show Below w8.heap.size w20 (wr.setCell ⟨gx, j * 6, none⟩ (.int .i64 (-2))) ∧ WX (.slice (some ⟨gx, 0, none⟩) cl.length xc) (cl.length * 6) (wr.setCell ⟨gx, j * 6, none⟩ (.int .i64 (-2))) from
        ⟨HR.out.1.setCell (own_fresh HO20.out) _, HR.out.2.set rfl _ _⟩)
      go_wp2_with fail
      go_roundw
      case rel => exact ⟨j + 1, by omega, by go_num, HNX⟩
      case measure => simp [intOf]; omega
    · obtain rfl : j = cl.length := by omega
      have hz := HZ20.out.trans HR.out.1
      have Hq40 := Lib.hid (Hq8.out.below hz (Nat.le_refl _))
      have Hp40 := Lib.hid (Hp8.out.below hz (Nat.le_refl _))
      have Hc40 := Lib.hid (Hc8.out.below hz (Nat.le_refl _))
      have Ha40 := Lib.hid (Ha8.out.below hz (Nat.le_refl _))
      have Hd40 := Lib.hid (Hd8.out.below hz (Nat.le_refl _))
      have Hb40 := Lib.hid (Hb8.out.below hz (Nat.le_refl _))
      have HB40 := Lib.hid (below_add HB8.out hz HB8.out.size)
      clear hz
      go_wp2_with (first
        | (go_at_call 19; (with_reducible refine (HMp.out _ _ _ Hq40.out Hp40.out).mono ?_); rintro e w41 ⟨rfl, hb⟩; have hb41 := hb; have Hq41 := Lib.hid (Hq40.out.below hb41 (Nat.le_refl _)); have Hp41 := Lib.hid (Hp40.out.below hb41 (Nat.le_refl _)); have Hc41 := Lib.hid (Hc40.out.below hb41 (Nat.le_refl _)); have Ha41 := Lib.hid (Ha40.out.below hb41 (Nat.le_refl _)); have Hd41 := Lib.hid (Hd40.out.below hb41 (Nat.le_refl _)); have Hb41 := Lib.hid (Hb40.out.below hb41 (Nat.le_refl _)); have HB41 := Lib.hid (below_add HB40.out hb41 HB40.out.size); clear hb hb41)
        | (go_at_call 20; (with_reducible refine (HMa.out _ _ _ Hc41.out Ha41.out).mono ?_); rintro e w42 ⟨rfl, hb⟩; have hb42 := hb; have Hq42 := Lib.hid (Hq41.out.below hb42 (Nat.le_refl _)); have Hp42 := Lib.hid (Hp41.out.below hb42 (Nat.le_refl _)); have Hc42 := Lib.hid (Hc41.out.below hb42 (Nat.le_refl _)); have Ha42 := Lib.hid (Ha41.out.below hb42 (Nat.le_refl _)); have Hd42 := Lib.hid (Hd41.out.below hb42 (Nat.le_refl _)); have Hb42 := Lib.hid (Hb41.out.below hb42 (Nat.le_refl _)); have HB42 := Lib.hid (below_add HB41.out hb42 HB41.out.size); clear hb hb42)
        | (go_at_call 20; (with_reducible refine (HMb.out _ _ _ Hd42.out Hb42.out).mono ?_); rintro e w43 ⟨rfl, hb⟩; have hb43 := hb; have Hq43 := Lib.hid (Hq42.out.below hb43 (Nat.le_refl _)); have Hp43 := Lib.hid (Hp42.out.below hb43 (Nat.le_refl _)); have Hc43 := Lib.hid (Hc42.out.below hb43 (Nat.le_refl _)); have Ha43 := Lib.hid (Ha42.out.below hb43 (Nat.le_refl _)); have Hd43 := Lib.hid (Hd42.out.below hb43 (Nat.le_refl _)); have Hb43 := Lib.hid (Hb42.out.below hb43 (Nat.le_refl _)); have HB43 := Lib.hid (below_add HB42.out hb43 HB42.out.size); clear hb hb43)
        | (go_at_call 8; (with_reducible refine (HK.out _).mono ?_); rintro e w99 ⟨rfl, hb⟩; have HB99 := Lib.hid (below_add HB43.out hb HB43.out.size); clear hb))
      go_ret
      exact ⟨rfl, HB99.out⟩
end Go.Proofs.Ythcakinllcffoaa
