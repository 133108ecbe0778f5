
import Derived.Test.YtiobcifpebehnaaDoorI3
import Derived.Test.YtiobcifpebehnaaDoorA11
/- I4: own -/
namespace Go.Proofs.YtiobcifpebehnaaDoor
open Go.RowKit
set_option linter.unusedVariables false

/-- A store of what lies there already. -/
theorem set_same {w : World} {b o : Nat} {v : Value} (h : w.cell? ⟨b, o, none⟩ = some v) : w.setCell ⟨b, o, none⟩ v = w := by
  unfold World.cell? at h
  unfold World.setCell
  have key : w.heap.modify b (fun x => match x with
      | .cells c elem frozen => .cells (if (none : Option Nat).isSome then c else c.setIfInBounds o v) elem frozen
      | o => o) = w.heap := by
    apply Array.ext_getElem?
    intro i
    rw [Array.getElem?_modify]
    split
    · rename_i hi
      subst hi
      cases hb : w.heap[b]? with
      | none => rfl
      | some x =>
        rw [hb] at h
        cases x with
        | cells c e fz =>
          have h2 : c[o]? = some v := by simpa using h
          have hlt := (Array.getElem?_eq_some_iff.1 h2).1
          have : c.setIfInBounds o v = c := by
            apply Array.ext_getElem?
            intro j
            rw [Array.getElem?_setIfInBounds]
            split
            · rename_i hj; subst hj; simp [hlt] at h2 ⊢; exact h2.symm
            · rfl
          simp [this]
        | _ => rfl
    · rfl
  exact congrArg (fun hp => { w with heap := hp }) key

theorem clone_str (s : ByteArray) (w : World) (h : s.size ≤ 281474976710656) : Calls Tryd.prog 47 #[.string s] w fun e w' => e = .returned (.string s) ∧ Below w.heap.size w w' := by
  go_enter Tryd.func47, Tryd.ntmps47
  go_wp2_with (go_at_call 56; refine (Tryd.stringslite_Clone s w h).mono ?_; rintro e w2 ⟨rfl, hb⟩)
  go_ret
  exact ⟨rfl, hb⟩

theorem own_cells {w0 W : World} {g cap : Nat} {xs : List Att} {k : Nat} (h : Own5 w0 W (.slice (some ⟨g, 0, none⟩) xs.length cap) xs) (hk : k < xs.length) : AAt g (k * 5) xs[k] W ∧ W.frozen? ⟨g, k * 5 + 4, none⟩ = false := by
  have h2 := (Row.of_owns (C := attC) h).1
  obtain ⟨b, off, ha, -, -, -, -, hat⟩ := Arow.opn h2 (by omega)
  obtain ⟨rfl, rfl⟩ : b = g ∧ off = 0 := by injection ha with e; injection e with e1 e2; exact ⟨e1.symm, e2.symm⟩
  have h3 := hat k hk
  rw [Nat.zero_add] at h3
  refine ⟨h3, ?_⟩
  rcases h.2 with ⟨hn, _⟩ | ⟨g', cap', cur, hv, _, hh, _⟩
  · cases hn
  · injection hv with e; injection e with e; injection e with e1
    subst e1
    simp [World.frozen?, hh]

set_option maxRecDepth 100000 in
set_option maxHeartbeats 1000000 in
/-- own: the same set, in memory of the call's own. -/
theorem own_any (v : Value) (xs : List Att) (w : World) (hv : Arow w v xs) (hl : xs.length ≤ 100000) (hs : ∀ a ∈ xs, a.s.size ≤ 281474976710656) :
    Calls Tryd.prog 33 #[v] w fun e w' => ∃ u, e = .returned u ∧ Own5 w w' u xs ∧ Below w.heap.size w w' := by
  have HC := Lib.hid (copy_any5 v xs w hv hl)
  have HS := Lib.hid hs
  clear hv hs
  go_enter Tryd.func33, Tryd.ntmps33
  go_wp2_with (go_at_call 46; refine HC.out.mono ?_; rintro e w1 ⟨u, rfl, HR⟩; refine Hid.out ?_)
  obtain ⟨ho, hb⟩ := HR
  by_cases h0 : 0 < xs.length
  · obtain ⟨g, cap, rfl, -, hgl⟩ := ho.form h0
    refine Lib.hid ?_
    have HO := Lib.hid ho
    clear ho HC
    go_wp2
    go_loopw [9] (fun s9 wr => ∃ k : Nat, k ≤ xs.length ∧ s9 = .int .i64 k ∧ Own5 w wr (.slice (some ⟨g, 0, none⟩) xs.length cap) xs ∧ Below w.heap.size w wr ∧ g < wr.heap.size) (fun s9 _ => xs.length - (intOf s9).toNat)
    case atStart => exact ⟨0, Nat.zero_le _, rfl, HO.out, hb, hgl⟩
    case round =>
      obtain ⟨k, hk, rfl, ho, hbr, hgr⟩ := hrel
      by_cases hlt : k < xs.length
      · obtain ⟨⟨c0, c1, c2, c3, c4⟩, f4⟩ := own_cells ho hlt
        have hx := HS.out xs[k] (List.getElem_mem hlt)
        have hb1 := (Below.refl wr.heap.size wr).alloc (Nat.le_refl _) (.cells (aca xs[k]) 47)
        have ho1 := owns_below ho hb1
        have hbb1 := below_add hbr hb1 hbr.size
        have HO1 := Lib.hid (And.intro ho1 hbb1)
        have hbx := Lib.hid (hb1.cell (p := ⟨g, k * 5 + 4, none⟩) hgr)
        have fbx := Lib.hid (hb1.frozen (p := ⟨g, k * 5 + 4, none⟩) hgr)
        clear ho hb1 ho1 hbr hbb1
        generalize xs[k] = x at *
        obtain ⟨x1, x2, x3, x4, x5⟩ := x
        simp only at c0 c1 c2 c3 c4 hx
        go_wp2_with (go_at_call 47; refine (clone_str x5 _ (by simpa using hx)).mono ?_; rintro e w2 ⟨rfl, hb2⟩; refine Hid.out ?_)
        have c5 : w2.cell? ⟨g, k * 5 + 4, none⟩ = some (.string x5) := (hb2.cell (p := ⟨g, k * 5 + 4, none⟩) (by simp; omega)).trans (hbx.out.trans c4)
        have f5 : w2.frozen? ⟨g, k * 5 + 4, none⟩ = false := (hb2.frozen (p := ⟨g, k * 5 + 4, none⟩) (by simp; omega)).trans (fbx.out.trans f4)
        have e5 := Lib.hid (set_same c5)
        have H2 := Lib.hid (And.intro (owns_below HO1.out.1 hb2) (And.intro (below_add HO1.out.2 hb2 HO1.out.2.size) (show g < w2.heap.size by have := hb2.size; simp at this; omega)))
        clear hb2
        refine Lib.hid ?_
        go_wp2
        go_roundw
        case rel =>
          refine ⟨k + 1, by omega, by go_num, ?_⟩
          rw [e5.out]
          exact H2.out
        case measure => simp [intOf]; omega
      · obtain rfl : k = xs.length := by omega
        have HR := Lib.hid (And.intro ho hbr)
        clear ho hbr
        go_wp2
        go_ret
        exact ⟨_, rfl, HR.out⟩
  · obtain rfl : xs = [] := List.eq_nil_of_length_eq_zero (by omega)
    obtain ⟨a, cap, rfl⟩ := ((Row.of_owns (C := attC) ho).1).shape
    refine Lib.hid ?_
    have HO := Lib.hid ho
    clear ho HC
    go_wp2
    refine wp_loop_rounds 1 ?_
    rw [rounds_succ]
    go_wp2
    go_ret
    exact ⟨_, rfl, HO.out, hb⟩
end Go.Proofs.YtiobcifpebehnaaDoor
