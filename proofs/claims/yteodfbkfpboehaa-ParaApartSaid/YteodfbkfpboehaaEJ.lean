
import Derived.Test.YteodfbkfpboehaaEI
/- EJ: a range over a tree's runs -/
namespace Go.Proofs.Yteodfbkfpboehaa
open Go.RowKit Go.Shelf
set_option linter.unusedVariables false
set_option maxRecDepth 100000
attribute [local go_sem] Oper.semAt_some
theorem act_gen {F : Fence} {n : Nat} {P : Program} {c : Code} {Q : Exit → Act → World → Prop} {a : Act} {w : World} (h : ∀ a', a = a' → c.wpIn F n P Q a' w) : c.wpIn F n P Q a w := h a rfl
theorem wp_nopanic {P : Program} {c : Code} {Q : Exit → Act → World → Prop} {a : Act} {w : World} (h : c.wp P (fun e a w => match e with | .normal => Q .normal a w | _ => False) a w) : c.wp P Q a w :=
  Code.wp_mono (fun e a w h => by cases e <;> first | exact h | exact h.elim) h
theorem wp_buildSliceL {P : Program} {o : Oper} {a : Act} {w : World} {K : Act → World → Prop} {Q : Exit → Act → World → Prop} (t e : TypeId) (len : Nat) (parts : Array (Nat × Operand)) (ho : o.op = .buildSlice t len parts)
    (N : Nat) (hN : w.heap.size = N) (hu : P.underlying t = some (.slice e)) (vs : List (Nat × Value)) (hv : parts.toList.map (fun (i, x) => (i, a.eval x)) = vs) (cells : Array Value) (hf : P.builtSlice e len vs = some cells)
    (h : K (a.put o.dst (.slice (some ⟨N, 0, none⟩) len len)) (w.alloc (.cells cells e))) : o.wp P a w K Q := by
  subst hN
  rw [← hv] at hf
  unfold Program.builtSlice at hf
  cases hie : P.info? e with
  | none => simp [hie] at hf
  | some ie =>
    simp only [hie] at hf
    cases hz : ie.zero with
    | none => simp [hz] at hf
    | some z =>
      simp only [hz] at hf
      by_cases hc : len * ie.size > 2 ^ 24 ∨ len * ie.size = 0
      · simp [hc] at hf
      · rw [if_neg hc] at hf
        exact wp_buildSlice t e len parts ho cells ie z hu hie hz (fun h' => hc (Or.inl h')) (fun h' => hc (Or.inr h')) (by rw [Array.toList_map]; exact hf) h
theorem over_any (tb : Nat) (i j : Nat) (w : World) : Calls Try.prog 28 #[.pointer (some ⟨tb, 0, none⟩), .int .i64 (i : Nat), .int .i64 (j : Nat)] w fun e w' => ∃ b1 b2 b3 : Nat, e = .returned (.func (.func 40) #[] #[.pointer (some ⟨b1, 0, none⟩), .pointer (some ⟨b2, 0, none⟩), .pointer (some ⟨b3, 0, none⟩)]) ∧
      Cb b1 30 #[.pointer (some ⟨tb, 0, none⟩)] w' ∧ Cb b2 3 #[.int .i64 (i : Nat)] w' ∧ Cb b3 3 #[.int .i64 (j : Nat)] w' ∧ w.heap.size ≤ b1 ∧ w.heap.size ≤ b2 ∧ w.heap.size ≤ b3 ∧ Below w.heap.size w w' := by
  have H1 := Lib.hid (show Cb w.heap.size 30 #[.pointer (some ⟨tb, 0, none⟩)] (((w.alloc (.cells #[.pointer (some ⟨tb, 0, none⟩)] 30)).alloc (.cells #[.int .i64 (i : Nat)] 3)).alloc (.cells #[.int .i64 (j : Nat)] 3)) from ((cb_new w _ _).alloc _).alloc _)
  have H2 := Lib.hid (show Cb (w.heap.size + 1) 3 #[.int .i64 (i : Nat)] (((w.alloc (.cells #[.pointer (some ⟨tb, 0, none⟩)] 30)).alloc (.cells #[.int .i64 (i : Nat)] 3)).alloc (.cells #[.int .i64 (j : Nat)] 3)) from by
    have := (cb_new (w.alloc (.cells #[.pointer (some ⟨tb, 0, none⟩)] 30)) 3 #[.int .i64 (i : Nat)]).alloc (.cells #[.int .i64 (j : Nat)] 3); simpa using this)
  have H3 := Lib.hid (show Cb (w.heap.size + 1 + 1) 3 #[.int .i64 (j : Nat)] (((w.alloc (.cells #[.pointer (some ⟨tb, 0, none⟩)] 30)).alloc (.cells #[.int .i64 (i : Nat)] 3)).alloc (.cells #[.int .i64 (j : Nat)] 3)) from by
    have := cb_new ((w.alloc (.cells #[.pointer (some ⟨tb, 0, none⟩)] 30)).alloc (.cells #[.int .i64 (i : Nat)] 3)) 3 #[.int .i64 (j : Nat)]; simpa using this)
  have H4 := Lib.hid ((((Below.refl w.heap.size w).alloc (Nat.le_refl _) (.cells #[.pointer (some ⟨tb, 0, none⟩)] 30)).alloc (by simp) (.cells #[.int .i64 (i : Nat)] 3)).alloc (by simp; omega) (.cells #[.int .i64 (j : Nat)] 3))
  go_enter Try.func28, Try.ntmps28
  go_wp2
  go_ret
  exact ⟨_, _, _, rfl, H1.out, H2.out, H3.out, Nat.le_refl _, Nat.le_succ _, by omega, H4.out⟩


theorem flatN_len {D : Sv → Prop} {Bn : Nat} : ∀ q : List (NCk D Bn), (flatN q).length = q.length := fun q => by simp [flatN]
/-- What records are read by, with where that lies. -/
theorem pa_readS {S : Nat → Prop} {rb : Nat} {l : List (List Att)} {w : World} (h : Rp S rb l w) : Calls Try.prog 24 #[.pointer (some ⟨rb, 0, none⟩)] w fun e w' => ∃ (tb : Nat) (S' : Nat → Prop) (D : Sv → Prop) (R : TC), e = .returned (.pointer (some ⟨tb, 0, none⟩)) ∧ (flat (R.el Wc) = l ∧ Pr (R.el Wc)) ∧ Sq D (wq l) S' tb R.id [R] w' ∧ (∀ k, S' k → (S k ∨ w.heap.size ≤ k) ∧ k < w'.heap.size) ∧ Below w.heap.size w w' := by
  rcases h with ⟨rfl, h, hs⟩ | ⟨tb, S', h, ⟨D, R, q1, q2, q3⟩, hx, hs⟩
  · have c0 : w.cell? ⟨rb, 0, none⟩ = some (.pointer none) := h.cell 0
    have HB := Lib.hid (blank_any w)
    clear h hs
    go_enter Try.func24, Try.ntmps24
    go_wp2_with (go_at_call 36; refine HB.out.mono ?_; rintro e w1 ⟨tb, rfl, ss, bb⟩; have SS := Lib.hid ss.cut; have BB := Lib.hid bb; clear ss bb)
    go_ret
    exact ⟨tb, _, _, .nil, rfl, ⟨rfl, trivial⟩, SS.out, fun k hk => ⟨.inr hk.1, hk.2⟩, BB.out⟩
  · have c0 : w.cell? ⟨rb, 0, none⟩ = some (.pointer (some ⟨tb, 0, none⟩)) := h.cell 0
    have H1 := Lib.hid q1
    have H2 := Lib.hid q2
    have H3 := Lib.hid q3
    have HX := Lib.hid hx
    clear h hs hx q1 q2 q3
    go_enter Try.func24, Try.ntmps24
    go_wp2
    go_ret
    exact ⟨tb, S', D, R, rfl, H2.out, H1.out, fun k hk => ⟨.inl (HX.out k hk).1, H3.out k hk⟩, Below.refl _ _⟩
/-- Every world that a range's rounds leave keeps a row of runs. -/
theorem Zown.grown {row : Option Nat} {B : Nat} {w w' : World} {v : Value} {zs : List Ck} (h : Zown B w v zs) (hg : w.grownBy w' row) (hr : ∀ r, row = some r → ∃ o : Obj, w.heap[r]? = some o ∧ o.isCells = false) : Zown B w' v zs :=
  ⟨own_grown h.row hg hr, fun z hz => own_grown (h.sets z hz) hg hr⟩
/-- All below n0 but for one, and all nodes, stay. -/
theorem kpn_off {n0 bl : Nat} {W W' : World} {row : Option Nat} (h : Off (fun k => k = bl ∨ row = some k) W W') (hr : ∀ g, row = some g → n0 ≤ g ∧ ∃ cs t f, W.heap[g]? = some (.cells cs t f) ∧ t ≠ 102) : KpN n0 (fun k => k = bl) W W' :=
  ⟨h.os, h.tape, h.output, h.size, fun k o hk hx hc => (h.block k (lt_of_heap hk) (fun hs => by
    rcases hs with hs | hs
    · exact hx hs
    · obtain ⟨q1, cs, t, f, q2, q3⟩ := hr k hs
      rcases hc with hc | ⟨cs2, t2, f2, rfl, ht⟩
      · omega
      · rw [hk] at q2
        injection q2 with q2
        injection q2 with _ e _
        exact q3 (e ▸ ht))).trans hk⟩
theorem kpn_putObj {n0 : Nat} {X : Nat → Prop} (W : World) {k : Nat} {o o' : Obj} (hk : n0 ≤ k) (ho : W.heap[k]? = some o) (h1 : o.isCells = false) : KpN n0 X W (W.putObj k o') :=
  have hG := grownBy_putObj' W k o'
  ⟨hG.os, hG.tape, hG.output, hG.size, fun k' o2 hk' hx hc => (hG.block k' (lt_of_heap hk') (fun e => by
    injection e with e
    subst e
    rw [ho] at hk'
    cases hk'
    rcases hc with hc | ⟨cs, t, f, rfl, ht⟩
    · omega
    · cases h1)).trans hk'⟩
end Go.Proofs.Yteodfbkfpboehaa
