
import Derived.Test.YthcakinllcffoaaH13
/- H14: the calls as the laws take them; what is true of them -/
namespace Go.Proofs.Ythcakinllcffoaa
open Go.RowKit
set_option linter.unusedVariables false

theorem great1_h (nk np n1 : Nat) (b : Bool) (hb : gt1 nk np n1 = b) (hk : nk ≤ 9223372036854775807) (hp : np ≤ 9223372036854775807) (h1 : n1 ≤ 9223372036854775807) (ka : Option Addr) (kc : Nat) (pa : Option Addr) (pc : Nat) (a1 : Option Addr) (c1 : Nat) (W : World) :
    Calls Try.prog 7 #[.slice ka nk kc, .slice pa np pc, .slice (some ⟨W.heap.size, 0, none⟩) 1 1] (W.alloc (.cells #[.slice a1 n1 c1] 24)) fun e w' => e = .returned (.bool b) ∧ Below W.heap.size W w' :=
  (great1_any ka nk kc pa np pc a1 n1 c1 hk hp h1 W).mono fun e w' ⟨h, hw⟩ => ⟨by rw [h, hb], by rw [hw]; exact kbelow_one W _⟩
theorem great2_h (nk np n1 n2 : Nat) (b : Bool) (hb : gt2 nk np n1 n2 = b) (hk : nk ≤ 9223372036854775807) (hp : np ≤ 9223372036854775807) (h1 : n1 ≤ 9223372036854775807) (h2 : n2 ≤ 9223372036854775807) (ka : Option Addr) (kc : Nat) (pa : Option Addr) (pc : Nat) (a1 : Option Addr) (c1 : Nat) (a2 : Option Addr) (c2 : Nat) (W : World) :
    Calls Try.prog 7 #[.slice ka nk kc, .slice pa np pc, .slice (some ⟨W.heap.size, 0, none⟩) 2 2] (W.alloc (.cells #[.slice a1 n1 c1, .slice a2 n2 c2] 24)) fun e w' => e = .returned (.bool b) ∧ Below W.heap.size W w' :=
  (great2_any ka nk kc pa np pc a1 n1 c1 a2 n2 c2 hk hp h1 h2 W).mono fun e w' ⟨h, hw⟩ => ⟨by rw [h, hb], by rw [hw]; exact kbelow_one W _⟩
theorem gt1_no {nk np n1 : Nat} (h : gt1 nk np n1 = false) : nk ≤ 64 ∧ np ≤ 100 ∧ n1 ≤ 100 := by
  simp [gt1] at h; exact ⟨h.1.1, h.1.2, h.2⟩
theorem gt2_no {nk np n1 n2 : Nat} (h : gt2 nk np n1 n2 = false) : nk ≤ 64 ∧ np ≤ 100 ∧ n1 ≤ 100 ∧ n2 ≤ 100 := by
  simp [gt2] at h; exact ⟨h.1.1.1, h.1.1.2, h.1.2, h.2⟩
theorem find_h (ks : List Key) (id : Int) (hwf : (Lit.int .i64 id).wf = true) (kk : Key) (bb : Bool) (h1 : (fnd ks id).getD noKey = kk) (h2 : (fnd ks id).isSome = bb) (v : Value) (W : World) (hs : Sch W v ks) :
    Calls Try.prog 27 #[v, .int .i64 id] W fun e w' => e = .returned (.tuple #[kv kk, .bool bb]) ∧ Below W.heap.size W w' := by
  have := find_any v ks id W hs hwf
  unfold fndV at this
  rw [h1, h2] at this
  exact this
theorem step_h (ks : List Key) (xs : List Att) (key by_ : Int) (hr : Rise xs) (hl : xs.length ≤ 1000000) (hwf : (Lit.int .i64 key).wf = true) (n : Int) (hn : stepV (numN xs key) by_ = n) (e : Int) (he : sE ks key = e) (l : List Chg) (hL : sL ks xs key n = l) (v u : Value) (W : World) (hs : Sch W v ks) (hv : Arow W u xs) :
    Calls Try.prog 16 #[v, u, .int .i64 key, .int .i64 by_] W fun z w' => ∃ u', z = .returned (.tuple #[u', .int .i64 e]) ∧ Hid (Own6 W w' u' l) ∧ Below W.heap.size W w' :=
  (step_any v u ks xs key by_ W hs hv hl hwf).mono fun z w' ⟨m, u', h1, _, _, h4, h5, h6⟩ => ⟨u', by rw [h4, he], Lib.hid (by rw [← hL, ← hn, ← h1 hr]; exact h5), h6⟩
theorem rget_h (xs : List Att) (key : Int) (a : Att) (b : Bool) (h : getV xs key = .tuple #[vv a, .bool b]) (u : Value) (W : World) (hv : Arow W u xs) :
    Calls Try.prog 25 #[u, .int .i64 key] W fun e w' => e = .returned (.tuple #[vv a, .bool b]) ∧ Below W.heap.size W w' := by
  rw [← h]; exact rget_any5 u xs key W hv
theorem rsameA_h (a b : List Att) (s : Bool) (h : decide (a = b) = s) (v1 v2 : Value) (W : World) (h1 : Arow W v1 a) (h2 : Arow W v2 b) :
    Calls Try.prog 20 #[v1, v2] W fun e w' => e = .returned (.bool s) ∧ Below W.heap.size W w' :=
  (rsame_any5 v1 v2 a b W h1 h2).mono fun e w' ⟨h', q, hw⟩ => ⟨by rw [h', h], by rw [hw]; exact blw_drewN (Below.refl _ _) q⟩
theorem rsameC6_h (a b : List Chg) (s : Bool) (h : decide (a = b) = s) (v1 v2 : Value) (W : World) (h1 : Crow W v1 a) (h2 : Crow W v2 b) :
    Calls Try.prog 19 #[v1, v2] W fun e w' => e = .returned (.bool s) ∧ Below W.heap.size W w' := rsameC_h a b s h v1 v2 W h1 h2
theorem split_h (ks : List Key) (xs l : List Att) (hL : only ks fS xs = l) (hW : ∀ a ∈ xs, AttW a) (hl : xs.length ≤ 1000000) (v u : Value) (W : World) (hs : Sch W v ks) (hv : Arow W u xs) :
    Calls Try.prog 14 #[v, u] W fun e w' => ∃ u', e = .returned u' ∧ Hid (Arow w' u' l) ∧ Below W.heap.size W w' :=
  (split_any v u ks xs W hs hv hW hl).mono fun e w' ⟨u', h, ho, hb⟩ => ⟨u', h, Lib.hid (by rw [← hL]; exact ho.row), hb⟩
theorem typed_h (ks : List Key) (x y l : List Att) (hL : typ ks x y = l) (hx : ∀ a ∈ x, AttW a) (hy : ∀ a ∈ y, AttW a) (nx : x.length ≤ 1000000) (ny : y.length ≤ 1000000) (v u1 u2 : Value) (W : World) (hs : Sch W v ks) (h1 : Arow W u1 x) (h2 : Arow W u2 y) :
    Calls Try.prog 15 #[v, u1, u2] W fun e w' => ∃ u', e = .returned u' ∧ Hid (Arow w' u' l) ∧ Below W.heap.size W w' :=
  (typed_any v u1 u2 ks x y W hs h1 h2 hx hy nx ny).mono fun e w' ⟨u', h, ho, hb⟩ => ⟨u', h, Lib.hid (by rw [← hL]; exact ho.row), hb⟩
theorem complete_h (ks : List Key) (p l : List Chg) (n : Int) (hn : cE ks p = n) (hL : cL ks p = l) (hW : ∀ c ∈ p, ChgW c) (hl : p.length ≤ 1000000) (v u : Value) (W : World) (hs : Sch W v ks) (hp : Crow W u p) :
    Calls Try.prog 13 #[v, u] W fun e w' => ∃ u', e = .returned (.tuple #[u', .int .i64 n]) ∧ Hid (Own6 W w' u' l) ∧ Below W.heap.size W w' := by
  rw [← hn, ← hL]
  exact (complete_any v u ks p W hs hp hW hl).mono fun e w' ⟨u', h, ho, hb⟩ => ⟨u', h, Lib.hid ho, hb⟩

/-! what a step leads to -/
theorem app_stepQ {ks : List Key} {xs : List Att} (hr : Rise xs) (key n : Int) : app xs (stepQ ks xs key n) = app xs (stepP ks key n) := by
  unfold stepQ
  split
  · rename_i h; rw [h, app_nil hr]
  · rfl
theorem now_twice {ks : List Key} {xs : List Att} (hr : Rise xs) (key n : Int) : app (app xs (stepP ks key n)) (stepP ks key n) = app xs (stepP ks key n) := app_twice hr (stepP_rise ks key n)
theorem now_get {ks : List Key} (hg : Good ks) {xs : List Att} (hr : Rise xs) (key n : Int) : getA (app xs (stepP ks key n)) key = if n = 0 then none else some (toA (setC key n)) := by
  rw [app_get hr (stepP_rise ks key n)]
  unfold stepP
  by_cases h : n = 0
  · rw [if_pos h, if_pos h]
    simp [getC, ck]
  · rw [if_neg h, if_neg h]
    rw [compl_get hg (one_rise _)]
    simp [getC, ck]
theorem now_num {ks : List Key} (hg : Good ks) {xs : List Att} (hr : Rise xs) (key n : Int) : numN (app xs (stepP ks key n)) key = n := by
  unfold numN
  rw [now_get hg hr]
  by_cases h : n = 0
  · rw [if_pos h, h]; simp
  · rw [if_neg h]; simp [toA]
theorem now_again {ks : List Key} {xs : List Att} (hr : Rise xs) (key n : Int) : stepQ ks (app xs (stepP ks key n)) key n = [] := by
  unfold stepQ; rw [if_pos (now_twice hr key n)]
end Go.Proofs.Ythcakinllcffoaa
