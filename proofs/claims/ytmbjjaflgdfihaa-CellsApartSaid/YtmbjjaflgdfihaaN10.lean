
import Derived.Test.YtmbjjaflgdfihaaN9
/- N10: an op's length, two that are alike, settled -/
namespace Go.Proofs.Ytmbjjaflgdfihaa
open Go.RowKit
set_option linter.unusedVariables false
set_option maxRecDepth 100000

theorem length_any (l : Int) (z : Oz) (w : World) (hl : lenN z.o = l) :
    Calls Try.prog 50 #[z.v] w fun e w' => e = .returned (.int .i64 l) ∧ Below w.heap.size w w' := by
  have HB := Lib.hid (kbelow_one w (.cells z.cs 51))
  unfold lenN Oz.o at hl
  obtain ⟨zk, zn, zra, zrc, zrs, zsa, zsc, zst, zpa, zpc, zpt⟩ := z
  simp only at hl
  by_cases h2 : zk = 2
  · subst h2
    rw [if_pos rfl] at hl
    subst hl
    go_enter Try.func50, Try.ntmps50
    go_wp2
    go_ret
    exact ⟨rfl, HB.out⟩
  have e2 : (zk == 2) = false := by simpa using h2
  rw [if_neg h2] at hl
  by_cases h1 : zk = 1
  · subst h1
    rw [if_pos (.inl rfl)] at hl
    subst hl
    clear h2
    go_enter Try.func50, Try.ntmps50
    go_wp2
    go_ret
    exact ⟨rfl, HB.out⟩
  have e1 : (zk == 1) = false := by simpa using h1
  by_cases h3 : zk = 3
  · subst h3
    rw [if_pos (.inr rfl)] at hl
    subst hl
    clear h2 h1
    go_enter Try.func50, Try.ntmps50
    go_wp2
    go_ret
    exact ⟨rfl, HB.out⟩
  have e3 : (zk == 3) = false := by simpa using h3
  rw [if_neg (by omega)] at hl
  subst hl
  clear h1 h2 h3
  go_enter Try.func50, Try.ntmps50
  go_wp2
  go_ret
  exact ⟨rfl, HB.out⟩

/-- An op without its length. -/
def bare (z : Oz) : Oz := ⟨z.k, 0, none, 0, [], z.sa, z.sc, z.st, z.pa, z.pc, z.pt⟩
theorem bare_eq {y z : Oz} : (bare y).o = (bare z).o ↔ Alike y.o z.o := by
  rw [opn_eq]
  exact ⟨fun h => ⟨h.1, h.2.2.2.1, h.2.2.2.2⟩, fun h => ⟨h.1, rfl, rfl, h.2.1, h.2.2⟩⟩
theorem bare_ok {w : World} {z : Oz} (h : OpOk w z) : OpOk w (bare z) := ⟨ints_nil _ _, h.s, h.p⟩
theorem alike_any (b : Bool) (y z : Oz) (w : World) (hy : OpOk w y) (hz : OpOk w z) (hb : decide (Alike y.o z.o) = b) :
    Calls Try.prog 51 #[y.v, z.v] w fun e w' => e = .returned (.bool b) ∧ Below w.heap.size w w' := by
  have HQ := Lib.hid (fun (u v : Value) W (h1 : Orow W u [bare y]) (h2 : Orow W v [bare z]) => (osame_any u v [bare y] [bare z] W h1 h2).mono fun e w' h => (⟨by rw [h.1, ← hb]; congr 2; rw [decide_eq_decide]; exact ⟨fun h => bare_eq.1 (by simpa using h), fun h => by simpa using bare_eq.2 h⟩, h.2⟩ : e = .returned (.bool b) ∧ Below W.heap.size W w'))
  have HB := Lib.hid (below_add (kbelow_two w (.cells (bare y).cs 51) (.cells (bare z).cs 51)) (kbelow_two ((w.alloc (.cells (bare y).cs 51)).alloc (.cells (bare z).cs 51)) (.cells (bare y).cs 51) (.cells (bare z).cs 51)) (by simp; omega))
  have hb2 := kbelow_two w (.cells (bare y).cs 51) (.cells (bare z).cs 51)
  have HU := Lib.hid ((orow_one _ (bare y) 51 ((bare_ok hy).below hb2)).below (kbelow_one _ (.cells (bare z).cs 51)))
  have HV := Lib.hid (orow_one _ (bare z) 51 (((bare_ok hz).below hb2).below (kbelow_one _ (.cells (bare y).cs 51))))
  simp only [World.size_alloc] at HU HV
  clear hy hz hb hb2
  go_enter Try.func51, Try.ntmps51
  go_wp2_with (go_at_call 9; refine (HQ.out _ _ _ HU.out HV.out).mono ?_; rintro e w1 ⟨rfl, hb⟩; have HB1 := Lib.hid (below_add HB.out hb HB.out.size); clear hb)
  go_ret
  exact ⟨rfl, HB1.out⟩

/-- Settled: the last op left out, if it is idle. -/
def lastI (zs : List Oz) : Bool := match zs.getLast? with
  | some z => decide (z.k = 1) && decide (z.pt.length = 0)
  | none => false
def settleZ (zs : List Oz) : List Oz := if lastI zs then zs.take (zs.length - 1) else zs
theorem settleZ_len (zs : List Oz) : (settleZ zs).length = if lastI zs then zs.length - 1 else zs.length := by
  unfold settleZ
  split
  · rw [List.length_take]; omega
  · rfl
theorem settleZ_o (zs : List Oz) : (settleZ zs).map Oz.o = (settleR (zs.map Oz.o).reverse).reverse := by
  have key : ∀ r : List Oz, (settleZ r.reverse).map Oz.o = (settleR (r.map Oz.o)).reverse := fun r => by
    cases r with
    | nil => rfl
    | cons z r =>
      have e : (z :: r).reverse = r.reverse ++ [z] := by simp
      have hl : lastI (r.reverse ++ [z]) = (decide (z.k = 1) && decide (z.pt.length = 0)) := by simp [lastI]
      unfold settleZ
      rw [e, hl, List.map_cons]
      by_cases hi : Idle z.o
      · have hp : z.pt = [] := hi.2
        have h1 : z.k = 1 := hi.1
        rw [settleR_yes (r.map Oz.o) hi, if_pos (by simp [h1, hp])]
        simp
      · rw [settleR_no (r.map Oz.o) hi, if_neg (fun h => hi (by simp only [Bool.and_eq_true, decide_eq_true_eq] at h; exact ⟨h.1, List.eq_nil_of_length_eq_zero h.2⟩))]
        simp
  have := key zs.reverse
  rw [List.reverse_reverse, List.map_reverse] at this
  exact this
theorem settled_any (a : Option Addr) (c : Nat) (zs : List Oz) (w : World) (h : Orow w (.slice a zs.length c) zs) :
    Calls Try.prog 47 #[.slice a zs.length c] w fun e w' => e = .returned (.slice a (settleZ zs).length c) ∧ w' = w := by
  have hl := h.len
  rw [settleZ_len]
  by_cases h0 : 0 < zs.length
  rotate_left
  · obtain rfl : zs = [] := List.eq_nil_of_length_eq_zero (by omega)
    clear h h0
    go_enter Try.func47, Try.ntmps47
    go_wp2
    go_ret
    exact ⟨rfl, rfl⟩
  obtain ⟨b, off, rfl, -, hcap, hm, -, hat⟩ := h.row.ats h0
  obtain ⟨c0, c1, c2, c3, c4⟩ := hat (zs.length - 1) (by omega)
  have hli : lastI zs = (decide (zs[zs.length - 1].k = 1) && decide (zs[zs.length - 1].pt.length = 0)) := by
    unfold lastI
    rw [List.getLast?_eq_getElem?, List.getElem?_eq_getElem (by omega)]
  rw [hli]
  clear hli h hat
  generalize zs[zs.length - 1] = z at *
  obtain ⟨n, hn⟩ : ∃ n, zs.length = n + 1 := ⟨zs.length - 1, by omega⟩
  rw [hn] at hcap hl ⊢
  rw [show zs.length - 1 = n by omega] at c0 c1 c2 c3 c4
  clear hn h0
  have e1 : (((n + 1 : Nat) : Int)) = (n : Int) + 1 := by omega
  have e2 : IntKind.i64.wrap (n : Int) = (n : Int) := by rw [IntKind.wrap_i64]; omega
  unfold maxLen at hm
  by_cases hk : z.k = 1
  rotate_left
  · have q1 : (z.k == 1) = false := by simpa using hk
    rw [decide_eq_false hk]
    clear hk
    go_enter Try.func47, Try.ntmps47
    go_wp2
    go_ret
    exact ⟨rfl, rfl⟩
  have q1 : (z.k == 1) = true := by simpa using hk
  rw [decide_eq_true hk]
  clear hk
  by_cases hp : z.pt.length = 0
  · rw [decide_eq_true hp]
    have q2 : ((z.pt.length : Int) == 0) = true := by simp [hp]
    clear hp
    go_enter Try.func47, Try.ntmps47
    go_wp2
    go_ret
    exact ⟨rfl, rfl⟩
  · rw [decide_eq_false hp]
    have q2 : ((z.pt.length : Int) == 0) = false := by simpa using hp
    clear hp
    go_enter Try.func47, Try.ntmps47
    go_wp2
    go_ret
    exact ⟨rfl, rfl⟩

/-! ### an op of a row of the call's own turned -/
theorem Ap.symm {y z : Oz} (h : Ap y z) : Ap z y := fun g hg hg2 => h g hg2 hg
theorem Oown.turn {F F' : Nat → Prop} {w w3 : World} {v : Value} {zs : List Oz} (h : Oown F w v zs) {g n c j : Nat} (hv : v = .slice (some ⟨g, 0, none⟩) n c) (hj : j < zs.length) (hO : Off (fun k => zs[j].rv.ownBlock = some k) w w3)
    (z' : Oz) (hz : OpOwn F' w3 z') (hF : ∀ k, F k → F' k) (hr : ∀ k, z'.rv.ownBlock = some k → zs[j].rv.ownBlock = some k ∨ w.heap.size ≤ k) (q : Nat) (u : Value) (hfl : (fl ozC zs).set (j * 5 + q) u = fl ozC (zs.set j z')) :
    Oown F' (w3.setCell ⟨g, j * 5 + q, none⟩ u) v (zs.set j z') ∧ Off F w (w3.setCell ⟨g, j * 5 + q, none⟩ u) := by
  subst hv
  have hyj := h.own _ (List.getElem_mem hj)
  have hrow3 : w3.ownsRow 0 51 5 (.slice (some ⟨g, 0, none⟩) n c) zs.length (fl ozC zs) := owns_kept h.row fun k hk => hO.block k (own_lt7 h.row hk) (fun hh => tag_ne hyj.r h.row (by decide) hh hk)
  have hn : n = zs.length := by
    obtain ⟨a, c', e, -, -⟩ := own_shape h.row
    injection e with _ e _
  subst hn
  have hG := grown_set (w := w3) (g := g) (o := j * 5 + q) u
  have hO2 : Off (fun k => k = g) w3 (w3.setCell ⟨g, j * 5 + q, none⟩ u) := Off.of_grown hG (fun k hk => by cases hk; rfl)
  have hO3 : Off (fun k => (Value.slice (some ⟨g, 0, none⟩) zs.length c).ownBlock = some k) w3 (w3.setCell ⟨g, j * 5 + q, none⟩ u) := hO2.mono (fun k hk => by rw [hk]; rfl)
  refine ⟨⟨?_, fun k hk => hF _ (h.f k hk), fun y hy => ?_, ?_⟩, ?_⟩
  · have := owns_set hrow3 (j := j * 5 + q) u
    rw [hfl] at this
    rw [List.length_set]
    exact this
  · obtain ⟨i, hi, rfl⟩ := List.mem_iff_getElem.1 hy
    rw [List.length_set] at hi
    by_cases hij : i = j
    · subst hij
      rw [List.getElem_set_self]
      exact hz.row hrow3 hO3
    · rw [List.getElem_set_ne (by omega)]
      have hyi := h.own _ (List.getElem_mem hi)
      have hap : Ap zs[j] zs[i] := by
        rcases Nat.lt_or_ge i j with hh | hh
        · exact (List.pairwise_iff_getElem.1 h.ap i j hi hj hh).symm
        · exact List.pairwise_iff_getElem.1 h.ap j i hj hi (by omega)
      have h3 : OpOwn F w3 zs[i] := hyi.kept (fun k hk => hO.block k (own_lt7 hyi.r hk) (fun hh => hap k hh hk)) (fun k hk => hO.block k (own_lt7 hyi.s hk) (fun hh => tag_ne hyj.r hyi.s (by decide) hh hk)) (fun k hk => hO.block k (own_lt7 hyi.p hk) (fun hh => tag_ne hyj.r hyi.p (by decide) hh hk))
      exact (h3.mono hF).row hrow3 hO3
  · rw [List.pairwise_iff_getElem]
    intro i1 i2 h1 h2 hlt
    rw [List.length_set] at h1 h2
    have hap : ∀ i (hi : i < zs.length), i ≠ j → Ap zs[i] z' := fun i hi hij k hk hk2 => by
      rcases hr k hk2 with hh | hh
      · rcases Nat.lt_or_ge i j with hl | hl
        · exact List.pairwise_iff_getElem.1 h.ap i j hi hj hl k hk hh
        · exact List.pairwise_iff_getElem.1 h.ap j i hj hi (by omega) k hh hk
      · have := own_lt7 (h.own _ (List.getElem_mem hi)).r hk
        omega
    by_cases e1 : i1 = j
    · subst e1
      rw [List.getElem_set_self, List.getElem_set_ne (by omega)]
      exact (hap i2 (by simpa using h2) (by omega)).symm
    · rw [List.getElem_set_ne (by omega)]
      by_cases e2 : i2 = j
      · subst e2
        rw [List.getElem_set_self]
        exact hap i1 (by simpa using h1) e1
      · rw [List.getElem_set_ne (by omega)]
        exact List.pairwise_iff_getElem.1 h.ap i1 i2 h1 h2 hlt
  · exact (hO.mono (fun k hk => hyj.fr k hk)).seq (hO2.mono (fun k hk => by rw [hk]; exact h.f g rfl))
theorem fl_turn {zs : List Oz} {j : Nat} (hj : j < zs.length) (q : Nat) (hq : q < 5) (u : Value) (z' : Oz) (h : (ozC.c zs[j]).set q u = ozC.c z') : (fl ozC zs).set (j * 5 + q) u = fl ozC (zs.set j z') := by
  have e : zs = zs.take j ++ zs[j] :: zs.drop (j + 1) := by rw [List.getElem_cons_drop, List.take_append_drop]
  have hl : (zs.take j).length = j := by rw [List.length_take]; omega
  have e2 : zs.set j z' = zs.take j ++ z' :: zs.drop (j + 1) := by
    rw [List.set_eq_take_append_cons_drop, if_pos hj]
  rw [e2, fl_app, fl_cons]
  have e3 : fl ozC zs = fl ozC (zs.take j) ++ (ozC.c zs[j] ++ fl ozC (zs.drop (j + 1))) := by
    conv => lhs; rw [e]
    rw [fl_app, fl_cons]
  have hfl : (fl ozC (zs.take j)).length = j * 5 := by rw [fl_len, hl]; rfl
  rw [e3, List.set_append_right _ _ (by rw [hfl]; omega), hfl, Nat.add_sub_cancel_left, List.set_append_left _ _ (by rw [ozC.len]; exact hq), h]
end Go.Proofs.Ytmbjjaflgdfihaa
