
import Derived.Test.YtiobcifpebehnaaDoorID
import Derived.Test.YtiobcifpebehnaaDoorI15
import Derived.RangeFuncNested
import Derived.RangeFuncBound
import Derived.RangeFuncCalls
import Derived.RangeFuncLeaves
import Derived.Shelf.Abstract
import Derived.Shelf.RegionOpen
import Derived.WalkKit
import Derived.OwnWalkIn
import Derived.TacticsInMore
import Derived.LoopNIn
import Derived.LoopIn
import Derived.Test.YtiobcifpebehnaaDoorA18
/- J1 -/
/- J1: a table that is none, or was not made; a range over a function that tells nothing -/
namespace Go
open Go.RowKit
/-- 'for range seq' where seq tells nothing. -/
theorem wpIn_rangeFunc_empty {F : Fence} {n : Nat} {P : Program} {g : Operand} {p : Tmp} {body : Code} {Q : Exit → Act → World → Prop} {a : Act} {w : World}
    (hro : F.round = none) (h1 : 1 ≤ n) {gf : Nat} {lb : Array Value} (hg : a.eval g = .func (.func gf) #[] lb) (hFg : F.fn gf) (eg : ∀ args w, (callFunc gf args).run P w = .ok (.enter gf args) w)
    (hseq : ∀ (l : Nat) (W : World), Below w.heap.size w W → CallsIn F (n - 1) P gf (#[.func (.yield l) #[] #[]] ++ lb) W fun e W' => (∃ v, e = .returned v) ∧ W' = W)
    (hdone : ∀ (D : Nat) (W : World), w.heap.size ≤ D → Below w.heap.size w W → W.heap[D]? = some (.deferred (some [])) → Q .normal { a with defers := { target := .collected D, args := #[] } :: a.defers } W) :
    (Code.rangeFunc g #[p] Code.skip body).wpIn F n P Q a w := by
  refine wpIn_rangeFunc_ownF (α := Int) (encs := fun x => #[Value.int .i64 x]) (Kp := Below w.heap.size) (S := fun xs => xs = []) (Sp := fun _ => False) (N := 0) (w0 := w) hro h1 hg hFg eg ?_ belowK_t (belowK_b (Nat.le_refl _)) (Below.refl _ _) (fun _ => rfl)
    (fun _ W => Below w.heap.size w W) (fun _ _ _ => False) (ownFrom_below (Nat.le_refl _) (Nat.le_refl _)) (fun _ _ _ _ _ hs _ _ => hs) (Below.refl _ _)
    (fun x => { tmps := ((#[p] : Array Tmp).zip #[Value.int .i64 x]).foldl (fun t (p, v) => t.setIfInBounds p v) a.tmps, defers := [] }) ?_ ?_ ?_ ?_
  · intro l J Jx W hW hJ hJx hY h0
    refine (hseq l W hW).mono fun e W' ⟨hv, hw⟩ => ?_
    subst hw
    exact ⟨hv, .inl ⟨[], rfl, h0⟩⟩
  · intro l x W K hK
    exact wpIn_skip hK
  · intro l pre x W _ h
    exact absurd h (Nat.not_lt_zero _)
  · rintro D xs W hD rfl hB hK
    exact hdone D W hD hB hK
  · rintro D c pre W _ h
    exact h.elim
end Go
namespace Go.Proofs.YtiobcifpebehnaaDoor
open Go.RowKit Go.Shelf
set_option linter.unusedVariables false
attribute [local go_sem] Oper.semAt_some

/-- No table: nil, or one that was not made. -/
def ZT (w : World) (p : Option Addr) : Prop := p = none ∨ ∃ b, p = some ⟨b, 0, none⟩ ∧ w.cell? ⟨b, 0, none⟩ = some (.pointer none)
theorem iszero_no {p : Option Addr} (w : World) (h : ZT w p) : Calls Tryd.prog 30 #[.pointer p] w fun e w' => e = .returned (.bool true) ∧ w' = w := by
  rcases h with rfl | ⟨b, rfl, c0⟩
  · go_enter Tryd.func30, Tryd.ntmps30
    go_wp2
    go_ret
    exact ⟨rfl, rfl⟩
  · go_enter Tryd.func30, Tryd.ntmps30
    go_wp2
    go_ret
    exact ⟨rfl, rfl⟩
theorem find_no {p : Option Addr} (id : Int) (w : World) (h : ZT w p) : Calls Tryd.prog 36 #[.pointer p, .int .i64 id] w fun e w' => e = .returned (.tuple #[.pointer none, .int .i64 1]) ∧ w' = w := by
  have HZ := Lib.hid (iszero_no w h)
  clear h
  go_enter Tryd.func36, Tryd.ntmps36
  go_wp2_with (go_at_call 30; refine HZ.out.mono ?_; rintro e w1 ⟨rfl, rfl⟩)
  exact bodyPost_ret (by simp [results, Tryd.results36, go_sem]) rfl ⟨rfl, rfl⟩
theorem add_no {p : Option Addr} (v : Value) (w : World) (h : ZT w p) : Calls Tryd.prog 14 #[.pointer p, v] w fun e w' => e = .returned (.tuple #[.int .i64 0, .int .i64 1]) ∧ w' = w := by
  have HZ := Lib.hid (iszero_no w h)
  clear h
  go_enter Tryd.func14, Tryd.ntmps14
  go_wp2_with (go_at_call 30; refine HZ.out.mono ?_; rintro e w1 ⟨rfl, rfl⟩)
  exact bodyPost_ret (by simp [results, Tryd.results14, go_sem]) rfl ⟨rfl, rfl⟩
theorem hold_no {p : Option Addr} (id : Int) (w : World) (h : ZT w p) : Calls Tryd.prog 18 #[.pointer p, .int .i64 id] w fun e w' => e = .returned (.int .i64 1) ∧ w' = w := by
  have HZ := Lib.hid (find_no id w h)
  clear h
  go_enter Tryd.func18, Tryd.ntmps18
  go_wp2_with (go_at_call 36; refine HZ.out.mono ?_; rintro e w1 ⟨rfl, rfl⟩)
  go_ret
  exact ⟨rfl, rfl⟩
theorem free_no {p : Option Addr} (id : Int) (w : World) (h : ZT w p) : Calls Tryd.prog 16 #[.pointer p, .int .i64 id] w fun e w' => e = .returned (.int .i64 1) ∧ w' = w := by
  have HZ := Lib.hid (find_no id w h)
  clear h
  go_enter Tryd.func16, Tryd.ntmps16
  go_wp2_with (go_at_call 36; refine HZ.out.mono ?_; rintro e w1 ⟨rfl, rfl⟩)
  go_ret
  exact ⟨rfl, rfl⟩
theorem held_no {p : Option Addr} (id : Int) (w : World) (h : ZT w p) : Calls Tryd.prog 23 #[.pointer p, .int .i64 id] w fun e w' => e = .returned (.int .i64 0) ∧ w' = w := by
  have HZ := Lib.hid (find_no id w h)
  clear h
  go_enter Tryd.func23, Tryd.ntmps23
  go_wp2_with (go_at_call 36; refine HZ.out.mono ?_; rintro e w1 ⟨rfl, rfl⟩)
  go_ret
  exact ⟨rfl, rfl⟩
theorem set_no {p : Option Addr} (id : Int) (w : World) (h : ZT w p) : Calls Tryd.prog 21 #[.pointer p, .int .i64 id] w fun e w' => e = .returned (.tuple #[.slice none 0 0, .int .i64 1]) ∧ w' = w := by
  have HZ := Lib.hid (find_no id w h)
  clear h
  go_enter Tryd.func21, Tryd.ntmps21
  go_wp2_with (go_at_call 36; refine HZ.out.mono ?_; rintro e w1 ⟨rfl, rfl⟩)
  exact bodyPost_ret (by simp [results, Tryd.results21, go_sem]) rfl ⟨rfl, rfl⟩
theorem len_no {p : Option Addr} (w : World) (h : ZT w p) : Calls Tryd.prog 24 #[.pointer p] w fun e w' => e = .returned (.int .i64 0) ∧ w' = w := by
  have HZ := Lib.hid (iszero_no w h)
  clear h
  go_enter Tryd.func24, Tryd.ntmps24
  go_wp2_with (go_at_call 30; refine HZ.out.mono ?_; rintro e w1 ⟨rfl, rfl⟩)
  go_ret
  exact ⟨rfl, rfl⟩
theorem all_any (p : Option Addr) (w : World) : Calls Tryd.prog 22 #[.pointer p] w fun e w' => e = .returned (.func (.func 38) #[] #[.pointer (some ⟨w.heap.size, 0, none⟩)]) ∧ w' = w.alloc (.cells #[.pointer p] 30) := by
  go_enter Tryd.func22, Tryd.ntmps22
  go_wp2
  go_ret
  exact ⟨rfl, rfl⟩
set_option maxRecDepth 100000 in
theorem all1_no {p : Option Addr} {B : Nat} (n l : Nat) (w : World) (h : ZT w p) (hB : w.cell? ⟨B, 0, none⟩ = some (.pointer p)) :
    CallsIn Fence.wide n Tryd.prog 38 #[.func (.yield l) #[] #[], .pointer (some ⟨B, 0, none⟩)] w fun e w' => (∃ v, e = .returned v) ∧ w' = w := by
  have HZ := Lib.hid (iszero_no w h)
  clear h
  refine callsIn_of_wp Tryd.func38 rfl trivial ?_ rfl
  simp only [Tryd.ntmps38, List.size_toArray, List.length_cons, List.length_nil, Nat.reduceAdd, Nat.reduceSub, Array.replicate_succ, Array.replicate_zero, List.push_toArray, List.append_toArray, List.nil_append, List.cons_append]
  gi_wp2
  refine wpIn_loop_once ?_
  gi_wp2_with (refine ⟨trivial, fun h => (by cases h), ?_⟩; gi_at_call 30; refine (callsIn_wide.2 HZ.out).mono ?_; rintro e w1 ⟨rfl, rfl⟩)
  go_end0
  exact ⟨⟨_, rfl⟩, rfl⟩
end Go.Proofs.YtiobcifpebehnaaDoor

/- J2 -/
/- J2: InternNone's walk -/
namespace Go.Proofs.YtiobcifpebehnaaDoor
open Go.RowKit Go.Shelf
set_option linter.unusedVariables false
attribute [local go_sem] Oper.semAt_some

/-- The law's own blocks: the result, the table that was not made, the two tables. -/
structure NoneR (w W : World) (b : Nat) : Prop where
  bel : Below w.heap.size w W
  lo : w.heap.size ≤ b
  hi : b + 3 ≤ W.heap.size
  res : W.heap[b]? = some (.cells #[.bool false] 4 (0, 0))
  zero : W.heap[b + 1]? = some (.cells #[.pointer none] 54 (0, 0))
  two : W.heap[b + 1 + 1]? = some (.cells #[.pointer none, .pointer (some ⟨b + 1, 0, none⟩)] 30 (0, 0))
theorem NoneR.below {w W W' : World} {b : Nat} (h : NoneR w W b) (hb : Below W.heap.size W W') : NoneR w W' b :=
  ⟨below_add h.bel hb h.bel.size, h.lo, Nat.le_trans h.hi hb.size, (hb.block _ (by have := h.hi; omega)).trans h.res, (hb.block _ (by have := h.hi; omega)).trans h.zero, (hb.block _ (by have := h.hi; omega)).trans h.two⟩
theorem NoneR.cells {w W : World} {b : Nat} (h : NoneR w W b) : W.cell? ⟨b, 0, none⟩ = some (.bool false) ∧ W.frozen? ⟨b, 0, none⟩ = false ∧ W.cell? ⟨b + 1 + 1, 0, none⟩ = some (.pointer none) ∧ W.cell? ⟨b + 1 + 1, 1, none⟩ = some (.pointer (some ⟨b + 1, 0, none⟩)) := by
  refine ⟨?_, ?_, ?_, ?_⟩
  · rw [cell_of_row W b 0 _ _ _ h.res]; rfl
  · simp [World.frozen?, h.res]
  · rw [cell_of_row W (b + 1 + 1) 0 _ _ _ h.two]; rfl
  · rw [cell_of_row W (b + 1 + 1) 1 _ _ _ h.two]; rfl
theorem NoneR.no0 {w W : World} {b : Nat} (h : NoneR w W b) : ZT W none := .inl rfl
theorem NoneR.no1 {w W : World} {b : Nat} (h : NoneR w W b) : ZT W (some ⟨b + 1, 0, none⟩) := .inr ⟨_, rfl, by rw [cell_of_row W (b + 1) 0 _ _ _ h.zero]; rfl⟩
theorem NoneR.new (w : World) : NoneR w (((w.alloc (.cells #[.bool false] 4)).alloc (.cells #[.pointer none] 54)).alloc (.cells #[.pointer none, .pointer (some ⟨w.heap.size + 1, 0, none⟩)] 30)) w.heap.size := by
  refine ⟨(((Below.refl _ w).alloc (Nat.le_refl _) _).alloc (by simp) _).alloc (by simp; omega) _, Nat.le_refl _, by simp, ?_, ?_, ?_⟩
  · rw [Below.heap_alloc _ _ _ (by simp; omega), Below.heap_alloc _ _ _ (by simp)]; exact heap_alloc_new w _
  · rw [Below.heap_alloc _ _ _ (by simp)]
    have := heap_alloc_new (w.alloc (.cells #[.bool false] 4)) (.cells #[.pointer none] 54)
    simpa using this
  · have := heap_alloc_new ((w.alloc (.cells #[.bool false] 4)).alloc (.cells #[.pointer none] 54)) (.cells #[.pointer none, .pointer (some ⟨w.heap.size + 1, 0, none⟩)] 30)
    simpa using this
set_option maxRecDepth 100000 in
theorem under_seq : ∃ a b c, Tryd.prog.underlying 59 = some (.func a b c) := ⟨_, _, _, rfl⟩
theorem equalIn_func (d : Nat) (P : Program) (t : TypeId) (f : Fn) (x y : Array Value) (w : World) {a b : Array TypeId} {c : Bool} (h : P.underlying t = some (.func a b c)) : (Op.equalIn (d + 1) t (.func f x y) .nilFunc).run P w = .ok false w := by
  simp [Op.equalIn, run_underlying h]
theorem equal_func (P : Program) (t : TypeId) (f : Fn) (x y : Array Value) (w : World) {a b : Array TypeId} {c : Bool} (h : P.underlying t = some (.func a b c)) : (Op.equal t (.func f x y) .nilFunc).run P w = .ok false w := equalIn_func 9999 P t f x y w h
theorem eql_func (P : Program) (t : TypeId) (f : Fn) (x y : Array Value) (w : World) {a b : Array TypeId} {c : Bool} (h : P.underlying t = some (.func a b c)) : (binOp .eql t (.func f x y) .nilFunc).run P w = .ok (.bool false) w := by
  have e : binOp .eql t (.func f x y) .nilFunc = (do pure (.bool (← Op.equal t (.func f x y) .nilFunc))) := rfl
  rw [e]
  simp [equal_func P t f x y w h]
theorem all_there (b : Nat) (W : World) : (binOp .eql 59 (.func (.func 38) #[] #[.pointer (some ⟨b, 0, none⟩)]) .nilFunc).run Tryd.prog W = .ok (.bool false) W := by
  obtain ⟨x, y, z, h⟩ := under_seq
  exact eql_func _ _ _ _ _ _ h
theorem ZT.below {w w' : World} {p : Option Addr} (h : ZT w p) (hb : Below w.heap.size w w') : ZT w' p := by
  rcases h with h | ⟨b, rfl, hc⟩
  · exact .inl h
  · exact .inr ⟨b, rfl, (hb.cell (p := ⟨b, 0, none⟩) (World.block_lt_of_cell? _ _ hc)).trans hc⟩

set_option maxRecDepth 100000 in
set_option maxHeartbeats 4000000 in
theorem none_walk (id : Int) (v : Value) (X : List Att) (w : World) (h1 : Arow w v X) (ht : Tab w.heap.size w) :
    Calls Tryd.prog 4 #[.int .i64 id, v] w fun e w' => e = .returned (.bool true) ∧ Below w.heap.size w w' := by
  have HKN := Lib.hid (fun (w' : World) (hb : Below w.heap.size w w') => known7_any w' (fun w2 hb2 => ht w2 (hb.trans (hb2.mono hb.size))))
  have hl1 := h1.len
  obtain ⟨va, vc, rfl⟩ := h1.shape
  clear h1 ht
  by_cases hlen : X.length ≤ 70
  · have g1 : decide (70 < (X.length : Int)) = false := by rw [decide_eq_false_iff_not]; omega
    refine (callsIn_wide (n := 9)).1 ?_
    refine callsIn_of_wp_marks Tryd.func4 rfl trivial ?_ rfl
    simp only [Tryd.ntmps4, List.size_toArray, List.length_cons, List.length_nil, Nat.reduceAdd, Nat.reduceSub, Array.replicate_succ, Array.replicate_zero, List.push_toArray, List.append_toArray, List.nil_append, List.cons_append]
    have HR0 := NoneR.new w
    gi_wp2
    generalize ((w.alloc (.cells #[.bool false] 4)).alloc (.cells #[.pointer none] 54)).alloc (.cells #[.pointer none, .pointer (some ⟨w.heap.size + 1, 0, none⟩)] 30) = W0 at *
    have R0 := Lib.hid HR0
    clear HR0
    refine wpIn_loop_rounds 3 ?_
    rw [roundsIn_succ]
    have hz := R0.out.no0
    obtain ⟨c0, c1, c2, c3⟩ := R0.out.cells
    have HA := Lib.hid (add_no (.slice va X.length vc) W0 hz)
    have HS := Lib.hid (set_no id W0 hz)
    have HL := Lib.hid (all_any none W0)
    have hq := all_there W0.heap.size (W0.alloc (.cells #[.pointer none] 30))
    gi_wp2_with (first
      | (refine ⟨trivial, ?_⟩; gi_at_call 14; refine (callsIn_wide.2 HA.out).mono ?_; rintro e wx ⟨rfl, hw⟩; have hw := hw.symm; subst hw)
      | (refine ⟨trivial, ?_⟩; gi_at_call 21; refine (callsIn_wide.2 HS.out).mono ?_; rintro e wy ⟨rfl, hw⟩; have hw := hw.symm; subst hw)
      | (refine ⟨trivial, ?_⟩; gi_at_call 22; refine (callsIn_wide.2 HL.out).mono ?_; rintro e wz ⟨rfl, hw⟩; subst hw))
    have hbA := (Below.refl W0.heap.size W0).alloc (Nat.le_refl _) (.cells #[.pointer none] 30)
    have hR1 := R0.out.below hbA
    have hz1 := hz.below hbA
    have hcb : (W0.alloc (.cells #[.pointer none] 30)).cell? ⟨W0.heap.size, 0, none⟩ = some (.pointer none) := by
      rw [cell_of_row _ _ 0 _ _ _ (heap_alloc_new W0 _)]; rfl
    refine wpIn_rangeFunc_empty rfl (by decide) (gf := 38) (lb := #[.pointer (some ⟨W0.heap.size, 0, none⟩)]) rfl trivial (enters_of Tryd.func38 (by kernel_rfl) rfl) (fun l W2 hb2 => ?_) ?_
    · exact all1_no _ _ W2 (hz1.below hb2) ((hb2.cell (p := ⟨W0.heap.size, 0, none⟩) (by simp)).trans hcb)
    rintro D0 W1 hD hb2 hK0
    have R1 := Lib.hid (hR1.below hb2)
    have hz2 := hz1.below hb2
    have hl0 := hD
    have HH := Lib.hid (hold_no id W1 hz2)
    have HF := Lib.hid (free_no id W1 hz2)
    have HE := Lib.hid (held_no id W1 hz2)
    have HN := Lib.hid (len_no W1 hz2)
    clear hbA hR1 hz1 hcb hb2 hz c0 c1 c2 c3 HA HS HL hq hD
    gi_wp2_with (first
      | (refine ⟨trivial, ?_⟩; gi_at_call 18; refine (callsIn_wide.2 HH.out).mono ?_; rintro e wx ⟨rfl, hw⟩; have hw := hw.symm; subst hw)
      | (refine ⟨trivial, ?_⟩; gi_at_call 16; refine (callsIn_wide.2 HF.out).mono ?_; rintro e wx ⟨rfl, hw⟩; have hw := hw.symm; subst hw)
      | (refine ⟨trivial, ?_⟩; gi_at_call 23; refine (callsIn_wide.2 HE.out).mono ?_; rintro e wx ⟨rfl, hw⟩; have hw := hw.symm; subst hw)
      | (refine ⟨trivial, ?_⟩; gi_at_call 24; refine (callsIn_wide.2 HN.out).mono ?_; rintro e wx ⟨rfl, hw⟩; have hw := hw.symm; subst hw))
    clear hz2 HH HF HE HN
    rw [roundsIn_succ]
    have hz := R1.out.no1
    obtain ⟨c0, c1, c2, c3⟩ := R1.out.cells
    have HA := Lib.hid (add_no (.slice va X.length vc) W1 hz)
    have HS := Lib.hid (set_no id W1 hz)
    have HL := Lib.hid (all_any (some ⟨w.heap.size + 1, 0, none⟩) W1)
    have hq := all_there W1.heap.size (W1.alloc (.cells #[.pointer (some ⟨w.heap.size + 1, 0, none⟩)] 30))
    gi_wp2_with (first
      | (refine ⟨trivial, ?_⟩; gi_at_call 14; refine (callsIn_wide.2 HA.out).mono ?_; rintro e wx ⟨rfl, hw⟩; have hw := hw.symm; subst hw)
      | (refine ⟨trivial, ?_⟩; gi_at_call 21; refine (callsIn_wide.2 HS.out).mono ?_; rintro e wy ⟨rfl, hw⟩; have hw := hw.symm; subst hw)
      | (refine ⟨trivial, ?_⟩; gi_at_call 22; refine (callsIn_wide.2 HL.out).mono ?_; rintro e wz ⟨rfl, hw⟩; subst hw))
    have hbA := (Below.refl W1.heap.size W1).alloc (Nat.le_refl _) (.cells #[.pointer (some ⟨w.heap.size + 1, 0, none⟩)] 30)
    have hR1 := R1.out.below hbA
    have hz1 := hz.below hbA
    have hcb : (W1.alloc (.cells #[.pointer (some ⟨w.heap.size + 1, 0, none⟩)] 30)).cell? ⟨W1.heap.size, 0, none⟩ = some (.pointer (some ⟨w.heap.size + 1, 0, none⟩)) := by
      rw [cell_of_row _ _ 0 _ _ _ (heap_alloc_new W1 _)]; rfl
    refine wpIn_rangeFunc_empty rfl (by decide) (gf := 38) (lb := #[.pointer (some ⟨W1.heap.size, 0, none⟩)]) rfl trivial (enters_of Tryd.func38 (by kernel_rfl) rfl) (fun l W2 hb2 => ?_) ?_
    · exact all1_no _ _ W2 (hz1.below hb2) ((hb2.cell (p := ⟨W1.heap.size, 0, none⟩) (by simp)).trans hcb)
    rintro D1 W2 hD hb2 hK1
    have R2 := Lib.hid (hR1.below hb2)
    have hz2 := hz1.below hb2
    have hsz1 := R0.out.bel.size; have hlt0 : D0 < W1.heap.size := lt_of_heap hK0; have hK0b := (hb2.block D0 (by simp; omega)).trans ((Below.heap_alloc W1 _ D0 hlt0).trans hK0); have hl1 : D0 < D1 := (by simp at hD; omega)
    have HH := Lib.hid (hold_no id W2 hz2)
    have HF := Lib.hid (free_no id W2 hz2)
    have HE := Lib.hid (held_no id W2 hz2)
    have HN := Lib.hid (len_no W2 hz2)
    clear hbA hR1 hz1 hcb hb2 hz c0 c1 c2 c3 HA HS HL hq hD
    gi_wp2_with (first
      | (refine ⟨trivial, ?_⟩; gi_at_call 18; refine (callsIn_wide.2 HH.out).mono ?_; rintro e wx ⟨rfl, hw⟩; have hw := hw.symm; subst hw)
      | (refine ⟨trivial, ?_⟩; gi_at_call 16; refine (callsIn_wide.2 HF.out).mono ?_; rintro e wx ⟨rfl, hw⟩; have hw := hw.symm; subst hw)
      | (refine ⟨trivial, ?_⟩; gi_at_call 23; refine (callsIn_wide.2 HE.out).mono ?_; rintro e wx ⟨rfl, hw⟩; have hw := hw.symm; subst hw)
      | (refine ⟨trivial, ?_⟩; gi_at_call 24; refine (callsIn_wide.2 HN.out).mono ?_; rintro e wx ⟨rfl, hw⟩; have hw := hw.symm; subst hw))
    clear hz2 HH HF HE HN
    rw [roundsIn_succ]
    have HK := Lib.hid (HKN.out W2 R2.out.bel)
    gi_wp2_with (refine ⟨trivial, ?_⟩; gi_at_call 11; refine (callsIn_wide.2 HK.out).mono ?_; rintro e W3 ⟨rfl, hb3⟩; obtain ⟨k1, k2, -, -⟩ := (R2.out.below hb3).cells)
    have hB3 := below_add R2.out.bel hb3 R2.out.bel.size
    have q0 := (hb3.block D0 (lt_of_heap hK0b)).trans hK0b
    have q1 := (hb3.block D1 (lt_of_heap hK1)).trans hK1
    have k3 := World.cell?_setCell_same' W3 ⟨w.heap.size, 0, none⟩ (.bool true) (by rw [k1]; rfl)
    have hB4 := hB3.setCell (p := ⟨w.heap.size, 0, none⟩) (Nat.le_refl _) (.bool true)
    have q2 := (KeepsOthers.setCell W3 ⟨w.heap.size, 0, none⟩ (.bool true)).same D0 _ q0 rfl
    have q3 := (KeepsOthers.setCell W3 ⟨w.heap.size, 0, none⟩ (.bool true)).same D1 _ q1 rfl
    generalize W3.setCell ⟨w.heap.size, 0, none⟩ (.bool true) = W4 at *
    have hG5 := grownBy_putObj' W4 D1 (.deferred none)
    have q5 := ((Off.of_grown (S := fun k => k = D1) hG5 (fun g hg => by cases hg; rfl)).block D0 (lt_of_heap q2) (fun e => by have e' : D0 = D1 := e; omega)).trans q2
    have k5 := cell_kept k3 hG5 (fun r e => by cases e; exact ⟨_, q3, rfl⟩)
    have hB5 := hB4.trans (belowK_b (w := w) (Nat.le_refl _) W4 D1 _ (.deferred none) (by have := R0.out.bel.size; simp at hl0; omega) q3 rfl rfl)
    have k6 := cell_kept k5 (grownBy_putObj' (W4.putObj D1 (.deferred none)) D0 (.deferred none)) (fun r e => by cases e; exact ⟨_, q5, rfl⟩)
    have hB6 := hB5.trans (belowK_b (w := w) (Nat.le_refl _) (W4.putObj D1 (.deferred none)) D0 _ (.deferred none) (by have := R0.out.bel.size; simp at hl0; omega) q5 rfl rfl)
    refine ⟨by simp, .inl ⟨_, _, rfl, run_takeDeferred q3, by simp, .inl ⟨_, _, rfl, run_takeDeferred q5, ?_⟩⟩⟩
    refine ⟨.bool true, ?_, rfl, hB6⟩
    simp [results, Tryd.f4, go_sem, k6]
  · have g1 : decide (70 < (X.length : Int)) = true := by rw [decide_eq_true_iff]; omega
    have hb0 := (Below.refl w.heap.size w).alloc (Nat.le_refl _) (.cells #[.bool false] 4)
    have HK := Lib.hid (HKN.out _ hb0)
    have HC := Lib.hid (fun (w9 : World) (hb : Below (w.alloc (.cells #[.bool false] 4)).heap.size (w.alloc (.cells #[.bool false] 4)) w9) => (show w9.heap[w.heap.size]? = some (.cells #[.bool false] 4 (0, 0)) from (hb.block _ (by simp)).trans (heap_alloc_new w _)))
    have HB := Lib.hid hb0
    clear hb0
    go_enter Tryd.func4, Tryd.ntmps4
    go_wp2_with (go_at_call 11; refine HK.out.mono ?_; rintro e w9 ⟨rfl, hb9⟩; have k0 := HC.out w9 hb9; have k1 : w9.cell? ⟨w.heap.size, 0, none⟩ = some (.bool false) := (by rw [cell_of_row w9 _ 0 _ _ _ k0]; rfl); have k2 : w9.frozen? ⟨w.heap.size, 0, none⟩ = false := (by simp [World.frozen?, k0]))
    have k3 := World.cell?_setCell_same' w9 ⟨w.heap.size, 0, none⟩ (.bool true) (by rw [k1]; rfl)
    refine bodyPost_ret (v := .bool true) (by simp [results, Tryd.f4, go_sem, k3]) rfl ⟨rfl, ?_⟩
    exact (below_add HB.out hb9 HB.out.size).setCell (p := ⟨w.heap.size, 0, none⟩) (Nat.le_refl _) _
end Go.Proofs.YtiobcifpebehnaaDoor
