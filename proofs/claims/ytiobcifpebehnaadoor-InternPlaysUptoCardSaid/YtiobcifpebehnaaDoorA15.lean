
import Derived.Test.YtiobcifpebehnaaDoorA14
import Derived.Test.YtiobcifpebehnaaDoorVB
import Derived.Test.YtiobcifpebehnaaDoorS10
/- A15: wellFormed -/
namespace Go.Proofs.YtiobcifpebehnaaDoor
open Go.RowKit
set_option linter.unusedVariables false

def okV (xs : List Att) : Bool := xs.all fun a => vmay a.k a.n a.f a.s
def okF5 (ks : List Key) (xs : List Att) : Bool := xs.all fun a => fitsB ks a.key a.k a.n a.f a.s
/-- May a set be, but for the schema; what May answers. -/
def wf5 (xs : List Att) : Bool := decide (Rise xs) && decide (xs.length ≤ 64) && okV xs
def may5 (ks : List Key) (xs : List Att) : Int := if wf5 xs then (if okF5 ks xs then 0 else 4) else 3
theorem okV_step {xs : List Att} {k : Nat} (h : k < xs.length) (hp : okV (xs.take k) = true) (hx : vmay xs[k].k xs[k].n xs[k].f xs[k].s = true) : okV (xs.take (k + 1)) = true := by
  unfold okV at *; rw [atake_snoc h, List.all_append, hp]; simpa using hx
theorem okV_bad {xs : List Att} {k : Nat} (h : k < xs.length) (hx : vmay xs[k].k xs[k].n xs[k].f xs[k].s = false) : okV xs = false := by
  unfold okV; rw [List.all_eq_false]; exact ⟨_, List.getElem_mem h, by rw [hx]; exact Bool.false_ne_true⟩
theorem okV_end {xs : List Att} (hp : okV (xs.take xs.length) = true) : okV xs = true := by rwa [List.take_of_length_le (Nat.le_refl _)] at hp
theorem okF_step {ks : List Key} {xs : List Att} {k : Nat} (h : k < xs.length) (hp : okF5 ks (xs.take k) = true) (hx : fitsB ks xs[k].key xs[k].k xs[k].n xs[k].f xs[k].s = true) : okF5 ks (xs.take (k + 1)) = true := by
  unfold okF5 at *; rw [atake_snoc h, List.all_append, hp]; simpa using hx
theorem okF_bad {ks : List Key} {xs : List Att} {k : Nat} (h : k < xs.length) (hx : fitsB ks xs[k].key xs[k].k xs[k].n xs[k].f xs[k].s = false) : okF5 ks xs = false := by
  unfold okF5; rw [List.all_eq_false]; exact ⟨_, List.getElem_mem h, by rw [hx]; exact Bool.false_ne_true⟩
theorem okF_end {ks : List Key} {xs : List Att} (hp : okF5 ks (xs.take xs.length) = true) : okF5 ks xs = true := by rwa [List.take_of_length_le (Nat.le_refl _)] at hp
theorem wf_badV {xs : List Att} (h : okV xs = false) : wf5 xs = false := by unfold wf5; rw [h, Bool.and_false]
theorem wf_badR {xs : List Att} (h : ¬ Rise xs) : wf5 xs = false := by unfold wf5; rw [decide_eq_false h]; rfl
theorem wf_badL {xs : List Att} (h : 64 < xs.length) : wf5 xs = false := by unfold wf5; rw [show decide (xs.length ≤ 64) = false by rw [decide_eq_false_iff_not]; omega]; simp
theorem wf_good {xs : List Att} (h1 : Rise xs) (h2 : xs.length ≤ 64) (h3 : okV xs = true) : wf5 xs = true := by unfold wf5; rw [decide_eq_true h1, decide_eq_true h2, h3]; rfl
theorem wf_parts {xs : List Att} (h : wf5 xs = true) : Rise xs ∧ xs.length ≤ 64 ∧ okV xs = true := by
  unfold wf5 at h; simpa [and_assoc] using h
theorem may_3 {ks : List Key} {xs : List Att} (h : wf5 xs = false) : may5 ks xs = 3 := by unfold may5; rw [h]; rfl
theorem may_4 {ks : List Key} {xs : List Att} (h : wf5 xs = true) (hf : okF5 ks xs = false) : may5 ks xs = 4 := by unfold may5; rw [h, hf]; rfl
theorem may_0 {ks : List Key} {xs : List Att} (h : wf5 xs = true) (hf : okF5 ks xs = true) : may5 ks xs = 0 := by unfold may5; rw [h, hf]; rfl
theorem rise_zero {xs : List Att} : Rise (xs.take 0) := by simp [Rise]

/-- The worlds of the round's test. -/
def WfC (B b o : Nat) (x y : Att) (two : Bool) (W W' : World) : Prop := ABox B x W' ∧ (two = true → AAt b o y W') ∧ Below W.heap.size W W'
theorem WfC.start {B b o : Nat} {x y : Att} {W : World} (h : ABox B x W) : WfC B b o x y false W W := ⟨h, fun h => absurd h Bool.false_ne_true, Below.refl _ _⟩
theorem WfC.start2 {B b o : Nat} {x y : Att} {W : World} (h : ABox B x W) (h2 : AAt b o y W) : WfC B b o x y true W W := ⟨h, fun _ => h2, Below.refl _ _⟩
theorem WfC.below {B b o : Nat} {x y : Att} {two : Bool} {W w w' : World} (h : WfC B b o x y two W w) (hb : Below w.heap.size w w') : WfC B b o x y two W w' :=
  ⟨h.1.below hb h.1.lt, fun ht => (h.2.1 ht).below hb (World.block_lt_of_cell? _ _ (h.2.1 ht).1), below_add h.2.2 hb h.2.2.size⟩

set_option maxRecDepth 100000 in
set_option maxHeartbeats 600000 in
theorem wf_any (v : Value) (xs : List Att) (w : World) (hv : Arow w v xs) (hW : ∀ a ∈ xs, AttW a) :
    Calls Tryd.prog 44 #[v] w fun e w' => e = .returned (.bool (wf5 xs)) ∧ Below w.heap.size w w' := by
  have hl := hv.len
  obtain ⟨a1, cap1, rfl⟩ := hv.shape
  by_cases hlong : 64 < xs.length
  · have HN := Lib.hid (wf_badL hlong)
    have d1 : decide ((64 : Int) < (xs.length : Int)) = true := by rw [decide_eq_true_iff]; omega
    clear hv hW hlong
    go_enter Tryd.func44, Tryd.ntmps44
    go_wp2
    go_ret
    exact ⟨by rw [HN.out]; rfl, Below.refl _ _⟩
  have d1 : decide ((64 : Int) < (xs.length : Int)) = false := by rw [decide_eq_false_iff_not]; omega
  by_cases h0 : 0 < xs.length
  · obtain ⟨b1, o1, rfl, -, -, -, hbl, hat⟩ := Arow.opn hv h0
    have HAT := Lib.hid hat
    have HWF := Lib.hid hW
    have HLG := Lib.hid (show xs.length ≤ 64 by omega)
    clear hv hat hW hlong
    go_enter Tryd.func44, Tryd.ntmps44
    go_wp2
    go_loopw [10] (fun s10 wr => ∃ k : Nat, k ≤ xs.length ∧ s10 = .int .i64 k ∧ Hid (Rise (xs.take k) ∧ okV (xs.take k) = true) ∧ Below w.heap.size w wr) (fun s10 _ => xs.length - (intOf s10).toNat)
    case atStart => exact ⟨0, Nat.zero_le _, rfl, Lib.hid ⟨rise_zero, rfl⟩, Below.refl _ _⟩
    case round =>
      obtain ⟨k, hk, rfl, HP, hb⟩ := hrel
      by_cases hlt : k < xs.length
      · obtain ⟨c0, c1, c2, c3, c4⟩ := (HAT.out k hlt).below hb hbl
        have hsz := hb.size
        have hw := HWF.out _ (List.getElem_mem hlt)
        have HM := Lib.hid (fun w => vmay_any xs[k].k xs[k].n xs[k].f xs[k].s w hw.f0 hw.f1)
        have hVS := fun h => okV_step hlt HP.out.2 h
        have hVB := fun h => wf_badV (okV_bad hlt h)
        clear hw
        cases k with
        | zero =>
          have hR1 : Rise (xs.take (0 + 1)) := rise_one
          have HR1 := Lib.hid hR1
          clear hR1
          generalize xs[0] = x at *
          obtain ⟨x1, x2, x3, x4, x5⟩ := x
          simp only at c0 c1 c2 c3 c4 HM hVS hVB
          generalize vmay x2 x3 x4 x5 = m at *
          have hbx := ABox.box ⟨x1, x2, x3, x4, x5⟩ wr 47
          simp only [Nat.zero_mul, Nat.add_zero] at c0 c1 c2 c3 c4
          go_wp2_with fail
          have hC0 : WfC wr.heap.size b1 o1 ⟨x1, x2, x3, x4, x5⟩ ⟨x1, x2, x3, x4, x5⟩ false (wr.alloc (.cells (aca ⟨x1, x2, x3, x4, x5⟩) 47)) (wr.alloc (.cells (aca ⟨x1, x2, x3, x4, x5⟩) 47)) := WfC.start hbx
          have KM := Lib.hid (fun w9 (hS : WfC wr.heap.size b1 o1 ⟨x1, x2, x3, x4, x5⟩ ⟨x1, x2, x3, x4, x5⟩ false (wr.alloc (.cells (aca ⟨x1, x2, x3, x4, x5⟩) 47)) w9) => (HM.out w9).mono fun e w' (h : _ ∧ _) => (⟨h.1, hS.below h.2⟩ : _ ∧ WfC wr.heap.size b1 o1 ⟨x1, x2, x3, x4, x5⟩ ⟨x1, x2, x3, x4, x5⟩ false (wr.alloc (.cells (aca ⟨x1, x2, x3, x4, x5⟩) 47)) w'))
          have HB := Lib.hid (hb.alloc hb.size (.cells (aca ⟨x1, x2, x3, x4, x5⟩) 47))
          clear hbx c0 c1 c2 c3 c4 HM hb
          refine region_classw (C := WfC wr.heap.size b1 o1 ⟨x1, x2, x3, x4, x5⟩ ⟨x1, x2, x3, x4, x5⟩ false (wr.alloc (.cells (aca ⟨x1, x2, x3, x4, x5⟩) 47))) (by kernel_rfl) (by kernel_rfl) (hC0.below (Below.refl _ _).drew) ?_
          repeat (first
            | (refine w_skip (by rfl) (by rfl) ?_
               simp only [Act.put, List.setIfInBounds_toArray, List.set_cons_zero, List.set_cons_succ])
            | (first
                 | refine w_val (v := ?_) (by rfl) (fun w9 hS => ?_) ?_
                 | refine w_valg (v := ?_) (by rfl) (by rfl) (fun w9 hS => ?_) ?_
               rotate_left
               · obtain ⟨⟨g0, g1, g2, g3, g4⟩, -, -⟩ := hS
                 go_simp
                 try with_reducible rfl
               simp only [Act.put, List.setIfInBounds_toArray, List.set_cons_zero, List.set_cons_succ])
            | (first
                 | refine w_call (by rfl) (fun w9 hS => ?_) KM.out ?_
                 | refine w_callg (by rfl) (by rfl) (fun w9 hS => ?_) KM.out ?_
               · obtain ⟨⟨g0, g1, g2, g3, g4⟩, -, -⟩ := hS
                 go_simp
               simp only [Act.put, List.setIfInBounds_toArray, List.set_cons_zero, List.set_cons_succ]))
          refine w_end ?_
          intro w5 T5
          cases m
          · have HVB := Lib.hid (hVB rfl)
            clear hVS hVB
            go_wp2_with fail
            go_ret
            exact ⟨by rw [HVB.out]; rfl, below_add HB.out T5.2.2 HB.out.size⟩
          · have HVS := Lib.hid (hVS rfl)
            have HT := Lib.hid T5.2.2
            clear hVS hVB
            go_wp2_with fail
            go_roundw
            case rel => exact ⟨0 + 1, by omega, by go_num, Lib.hid ⟨HR1.out, HVS.out⟩, below_add HB.out HT.out HB.out.size⟩
            case measure => simp [intOf]; omega
        | succ j =>
          have hjl : j < xs.length := by omega
          obtain ⟨p0, p1, p2, p3, p4⟩ := (HAT.out j hjl).below hb hbl
          have hRS := fun h => rise_step hlt HP.out.1 h
          have hRB := fun h => wf_badR (rise_bad hlt h)
          have hj1 : ((j + 1 : Nat) : Int) = (j : Int) + 1 := by omega
          have hwr : IntKind.i64.wrap (j : Int) = (j : Int) := by have := HLG.out; rw [IntKind.wrap_i64]; omega
          rw [hj1]
          generalize xs[j + 1] = x at *
          generalize xs[j] = y at *
          obtain ⟨x1, x2, x3, x4, x5⟩ := x
          obtain ⟨y1, y2, y3, y4, y5⟩ := y
          simp only at c0 c1 c2 c3 c4 p0 p1 p2 p3 p4 HM hVS hVB hRS hRB
          generalize vmay x2 x3 x4 x5 = m at *
          have hbx := ABox.box ⟨x1, x2, x3, x4, x5⟩ wr 47
          have HC0 := Lib.hid (WfC.start2 (x := ⟨x1, x2, x3, x4, x5⟩) (y := ⟨y1, y2, y3, y4, y5⟩) hbx (AAt.below (a := ⟨y1, y2, y3, y4, y5⟩) ⟨p0, p1, p2, p3, p4⟩ ((Below.refl _ _).alloc (Nat.le_refl _) (.cells (aca ⟨x1, x2, x3, x4, x5⟩) 47)) (by omega)))
          have KM := Lib.hid (fun w9 (hS : WfC wr.heap.size b1 (o1 + j * 5) ⟨x1, x2, x3, x4, x5⟩ ⟨y1, y2, y3, y4, y5⟩ true (wr.alloc (.cells (aca ⟨x1, x2, x3, x4, x5⟩) 47)) w9) => (HM.out w9).mono fun e w' (h : _ ∧ _) => (⟨h.1, hS.below h.2⟩ : _ ∧ WfC wr.heap.size b1 (o1 + j * 5) ⟨x1, x2, x3, x4, x5⟩ ⟨y1, y2, y3, y4, y5⟩ true (wr.alloc (.cells (aca ⟨x1, x2, x3, x4, x5⟩) 47)) w'))
          have HB := Lib.hid (hb.alloc hb.size (.cells (aca ⟨x1, x2, x3, x4, x5⟩) 47))
          go_wp2_with fail
          clear hbx c0 c1 c2 c3 c4 p0 p1 p2 p3 p4 HM hb
          by_cases hle : x1 ≤ y1
          · have e1 : decide (x1 ≤ y1) = true := by simpa using hle
            have HVB := Lib.hid (hRB (by omega))
            clear hVS hVB hRS hRB hle
            refine region_classw (C := WfC wr.heap.size b1 (o1 + j * 5) ⟨x1, x2, x3, x4, x5⟩ ⟨y1, y2, y3, y4, y5⟩ true (wr.alloc (.cells (aca ⟨x1, x2, x3, x4, x5⟩) 47))) (by kernel_rfl) (by kernel_rfl) (HC0.out.below (Below.refl _ _).drew) ?_
            repeat (first
              | (refine w_skip (by rfl) (by rfl) ?_
                 simp only [Act.put, List.setIfInBounds_toArray, List.set_cons_zero, List.set_cons_succ])
              | (first
                   | refine w_val (v := ?_) (by rfl) (fun w9 hS => ?_) ?_
                   | refine w_valg (v := ?_) (by rfl) (by rfl) (fun w9 hS => ?_) ?_
                 rotate_left
                 · obtain ⟨⟨g0, g1, g2, g3, g4⟩, hy, -⟩ := hS
                   obtain ⟨f0, f1, f2, f3, f4⟩ := hy rfl
                   go_simp
                   try with_reducible rfl
                 simp only [Act.put, List.setIfInBounds_toArray, List.set_cons_zero, List.set_cons_succ]))
            refine w_end ?_
            intro w5 T5
            go_wp2_with fail
            go_ret
            exact ⟨by rw [HVB.out]; rfl, below_add HB.out T5.2.2 HB.out.size⟩
          · have e1 : decide (x1 ≤ y1) = false := by simpa using hle
            have HRS := Lib.hid (hRS (by omega))
            clear hRS hRB hle
            refine region_classw (C := WfC wr.heap.size b1 (o1 + j * 5) ⟨x1, x2, x3, x4, x5⟩ ⟨y1, y2, y3, y4, y5⟩ true (wr.alloc (.cells (aca ⟨x1, x2, x3, x4, x5⟩) 47))) (by kernel_rfl) (by kernel_rfl) (HC0.out.below (Below.refl _ _).drew) ?_
            repeat (first
              | (refine w_skip (by rfl) (by rfl) ?_
                 simp only [Act.put, List.setIfInBounds_toArray, List.set_cons_zero, List.set_cons_succ])
              | (first
                   | refine w_val (v := ?_) (by rfl) (fun w9 hS => ?_) ?_
                   | refine w_valg (v := ?_) (by rfl) (by rfl) (fun w9 hS => ?_) ?_
                 rotate_left
                 · obtain ⟨⟨g0, g1, g2, g3, g4⟩, hy, -⟩ := hS
                   obtain ⟨f0, f1, f2, f3, f4⟩ := hy rfl
                   go_simp
                   try with_reducible rfl
                 simp only [Act.put, List.setIfInBounds_toArray, List.set_cons_zero, List.set_cons_succ])
              | (first
                   | refine w_call (by rfl) (fun w9 hS => ?_) KM.out ?_
                   | refine w_callg (by rfl) (by rfl) (fun w9 hS => ?_) KM.out ?_
                 · obtain ⟨⟨g0, g1, g2, g3, g4⟩, hy, -⟩ := hS
                   obtain ⟨f0, f1, f2, f3, f4⟩ := hy rfl
                   go_simp
                 simp only [Act.put, List.setIfInBounds_toArray, List.set_cons_zero, List.set_cons_succ]))
            refine w_end ?_
            intro w5 T5
            cases m
            · have HVB := Lib.hid (hVB rfl)
              clear hVS hVB
              go_wp2_with fail
              go_ret
              exact ⟨by rw [HVB.out]; rfl, below_add HB.out T5.2.2 HB.out.size⟩
            · have HVS := Lib.hid (hVS rfl)
              have HT := Lib.hid T5.2.2
              clear hVS hVB
              go_wp2_with fail
              go_roundw
              case rel => exact ⟨j + 1 + 1, by omega, by go_num, Lib.hid ⟨HRS.out, HVS.out⟩, below_add HB.out HT.out HB.out.size⟩
              case measure => simp [intOf]; omega
      · obtain rfl : k = xs.length := by omega
        have HB := Lib.hid hb
        have HG := Lib.hid (wf_good (rise_end HP.out.1) HLG.out (okV_end HP.out.2))
        clear hb
        go_wp2
        go_ret
        exact ⟨by rw [HG.out]; rfl, HB.out⟩
  · obtain rfl : xs = [] := List.eq_nil_of_length_eq_zero (by omega)
    clear hv h0 hl hW hlong
    go_enter Tryd.func44, Tryd.ntmps44
    go_wp2
    refine wp_loop_rounds 1 ?_
    rw [rounds_succ]
    go_wp2
    go_ret
    exact ⟨rfl, Below.refl _ _⟩
end Go.Proofs.YtiobcifpebehnaaDoor
