
import Derived.Test.YtoppgdhidnpibaaQE
import Derived.RangeFuncNested
import Derived.RangeFuncBound
import Derived.RangeFuncCalls
import Derived.RangeFuncLeaves
import Derived.Shelf.Abstract
import Derived.Shelf.RegionOpen
import Derived.WalkKit
import Derived.OwnWalkIn
import Derived.TacticsInMore
import Derived.LoopNIn
import Derived.LoopIn
/- QD: SpansNone -/
namespace Go
open Go.RowKit
/-- 'for range seq' where seq tells nothing. -/
theorem wpIn_range_none11 {F : Fence} {n : Nat} {P : Program} {g : Operand} {p : Tmp} {body : Code} {Q : Exit → Act → World → Prop} {a : Act} {w : World}
    (hro : F.round = none) (h1 : 1 ≤ n) {gf : Nat} {lb : Array Value} (hg : a.eval g = .func (.func gf) #[] lb) (hFg : F.fn gf) (eg : ∀ args w, (callFunc gf args).run P w = .ok (.enter gf args) w)
    (hseq : ∀ (l : Nat) (W : World), Below w.heap.size w W → CallsIn F (n - 1) P gf (#[.func (.yield l) #[] #[]] ++ lb) W fun e W' => (∃ v, e = .returned v) ∧ Below W.heap.size W W')
    (hdone : ∀ (D : Nat) (W : World), w.heap.size ≤ D → Below w.heap.size w W → W.heap[D]? = some (.deferred (some [])) → Q .normal { a with defers := { target := .collected D, args := #[] } :: a.defers } W) :
    (Code.rangeFunc g #[p] Code.skip body).wpIn F n P Q a w := by
  refine wpIn_rangeFunc_ownH (α := Int) (encs := fun x => #[Value.int .i64 x]) (Kp := Below w.heap.size) (S := fun xs => xs = []) (Sp := fun _ => False) (N := 0) (w0 := w) hro h1 hg hFg eg ?_ belowK_t (belowK_b (Nat.le_refl _)) (Below.refl _ _) (fun _ => rfl)
    (fun _ W => Below w.heap.size w W) (fun _ _ _ => False) (ownFrom_below (Nat.le_refl _) (Nat.le_refl _)) (fun _ _ _ _ _ hs _ _ => hs) (Below.refl _ _)
    (fun _ _ _ => True) (fun _ _ _ _ _ _ _ _ _ => trivial) ?_ ?_ ?_ ?_
  · intro l J Jx W hW hJ hJx hY h0
    refine (hseq l W hW).mono fun e W' ⟨hv, hb⟩ => ?_
    exact ⟨hv, .inl ⟨[], rfl, hJ [] W W' none h0 ⟨hb.os, hb.tape, hb.output, hb.size, fun k hk _ => hb.block k hk⟩ (fun r e => by cases e)⟩⟩
  · intro l pre x W K hI hK
    exact wpIn_skip (hK _ _ ((KeepsOthers.refl W).from _) (Below.refl _ _) hI trivial)
  · intro l pre x a' W _ _ _ _ h
    exact absurd h (Nat.not_lt_zero _)
  · rintro D xs W hD rfl hB hK
    exact hdone D W hD hB hK
  · rintro D c pre W _ h
    exact h.elim
end Go
namespace Go.Proofs.Ytoppgdhidnpibaa
open Go.RowKit Go.Shelf
set_option linter.unusedVariables false
set_option maxRecDepth 100000
attribute [local go_sem] Oper.semAt_some

theorem nil_at (i : Int) (w : World) : Calls Try.prog 9 #[.pointer none, .int .i64 i] w fun e w' => e = .returned (.tuple #[.int .i64 0, .int .i64 1]) ∧ w' = w := by
  go_enter Try.func9, Try.ntmps9
  go_wp2
  exact bodyPost_ret (by simp [results, Try.results9, go_sem]) rfl ⟨rfl, rfl⟩
theorem nil_over (i j : Int) (w : World) : Calls Try.prog 10 #[.pointer none, .int .i64 i, .int .i64 j] w fun e w' => e = .returned (.tuple #[.slice none 0 0, .int .i64 1]) ∧ w' = w := by
  go_enter Try.func10, Try.ntmps10
  go_wp2
  exact bodyPost_ret (by simp [results, Try.results10, go_sem]) rfl ⟨rfl, rfl⟩
theorem nil_splice (i j : Int) (v : Value) (w : World) : Calls Try.prog 12 #[.pointer none, .int .i64 i, .int .i64 j, v] w fun e w' => e = .returned (.int .i64 1) ∧ w' = w := by
  go_enter Try.func12, Try.ntmps12
  go_wp2
  go_ret
  exact ⟨rfl, rfl⟩
theorem nil_map (i j : Int) (v : Value) (w : World) : Calls Try.prog 13 #[.pointer none, .int .i64 i, .int .i64 j, v] w fun e w' => e = .returned (.int .i64 1) ∧ w' = w := by
  have HO := Lib.hid (nil_over i j w)
  go_enter Try.func13, Try.ntmps13
  go_wp2_with (go_at_call 10; refine HO.out.mono ?_; rintro e w1 ⟨rfl, rfl⟩)
  go_ret
  exact ⟨rfl, rfl⟩
theorem nil_len (w : World) : Calls Try.prog 15 #[.pointer none] w fun e w' => e = .returned (.int .i64 0) ∧ Below w.heap.size w w' := by
  have HR := Lib.hid (sp_read0 w)
  have hfl := field_len
  go_enter Try.func15, Try.ntmps15
  go_wp2_with (first
    | (go_at_call 22; refine HR.out.mono ?_; rintro e w1 ⟨tb, S', rfl, ht, bb⟩; have HT := Lib.hid ht; have B1 := Lib.hid bb; clear ht bb)
    | (go_at_call 35; refine (tq_size HT.out).mono ?_; rintro e w2 ⟨rfl, bb⟩; have B2 := Lib.hid (below_add B1.out bb B1.out.size); clear bb))
  go_ret
  exact ⟨rfl, B2.out⟩
theorem nil_count (w : World) : Calls Try.prog 16 #[.pointer none] w fun e w' => e = .returned (.int .i64 0) ∧ Below w.heap.size w w' := by
  have HR := Lib.hid (sp_read0 w)
  have hfl := field_mks
  go_enter Try.func16, Try.ntmps16
  go_wp2_with (first
    | (go_at_call 22; refine HR.out.mono ?_; rintro e w1 ⟨tb, S', rfl, ht, bb⟩; have HT := Lib.hid ht; have B1 := Lib.hid bb; clear ht bb)
    | (go_at_call 35; refine (tq_size HT.out).mono ?_; rintro e w2 ⟨rfl, bb⟩; have B2 := Lib.hid (below_add B1.out bb B1.out.size); clear bb))
  go_ret
  exact ⟨rfl, B2.out⟩
theorem nil_read (w : World) : Calls Try.prog 22 #[.pointer none] w fun e w' => ∃ tb : Nat, e = .returned (.pointer (some ⟨tb, 0, none⟩)) ∧ Sq 0 (fun k => w.heap.size ≤ k) tb (Tr.nil : TC).id [.nil] w' ∧ Below w.heap.size w w' := by
  have HB := Lib.hid (blank_any w)
  go_enter Try.func22, Try.ntmps22
  go_wp2_with (go_at_call 38; refine HB.out.mono ?_; rintro e w1 ⟨tb, rfl, ss, bb⟩; have SS := Lib.hid ss; have BB := Lib.hid bb; clear ss bb)
  go_ret
  exact ⟨tb, rfl, SS.out, BB.out⟩
theorem blank_height {Q : Nat} {S : Nat → Prop} {tb : Nat} {w : World} (h : Sq Q S tb (Tr.nil : TC).id [.nil] w) : Calls Try.prog 36 #[.pointer (some ⟨tb, 0, none⟩)] w fun e w' => e = .returned (.int .i64 0) ∧ Below w.heap.size w w' := by
  have hc := h.root5.1
  have hfs := field_ht
  have HAT := Lib.hid (at_st (.nil : TC) List.mem_cons_self h)
  clear h
  go_enter Try.func36, Try.ntmps36
  go_wp2_with (go_at_call 53; refine HAT.out.mono ?_; rintro e w1 ⟨rfl, b1⟩; have B1 := Lib.hid b1; clear b1)
  go_ret
  exact ⟨rfl, B1.out⟩
theorem nil_height (w : World) : Calls Try.prog 17 #[.pointer none] w fun e w' => e = .returned (.int .i64 0) ∧ Below w.heap.size w w' := by
  have HR := Lib.hid (nil_read w)
  go_enter Try.func17, Try.ntmps17
  go_wp2_with (first
    | (go_at_call 22; refine HR.out.mono ?_; rintro e w1 ⟨tb, rfl, ht, bb⟩; have HT := Lib.hid ht; have B1 := Lib.hid bb; clear ht bb)
    | (go_at_call 36; refine (blank_height HT.out).mono ?_; rintro e w2 ⟨rfl, bb⟩; have B2 := Lib.hid (below_add B1.out bb B1.out.size); clear bb))
  go_ret
  exact ⟨rfl, B2.out⟩
theorem nil_copy (w : World) : Calls Try.prog 18 #[.pointer none] w fun e w' => e = .returned (.pointer none) ∧ w' = w := by
  go_enter Try.func18, Try.ntmps18
  go_wp2
  go_ret
  exact ⟨rfl, rfl⟩
theorem nil_all1 (n ln bx : Nat) (W : World) (hc : Cb bx 26 #[.pointer none] W) :
    CallsIn Fence.wide n Try.prog 27 #[.func (.yield ln) #[] #[], .pointer (some ⟨bx, 0, none⟩)] W fun e W' => (∃ v, e = .returned v) ∧ Below W.heap.size W W' := by
  have HC := Lib.hid (nil_count W)
  have cb : W.cell? ⟨bx, 0, none⟩ = some (.pointer none) := hc.cell 0
  clear hc
  refine callsIn_of_wp Try.func27 rfl trivial ?_ rfl
  simp only [Try.ntmps27, List.size_toArray, List.length_cons, List.length_nil, Nat.reduceAdd, Nat.reduceSub, Array.replicate_succ, Array.replicate_zero, List.push_toArray, List.append_toArray, List.nil_append, List.cons_append]
  gi_wp2
  refine wpIn_loop_rounds 1 ?_
  rw [roundsIn_succ]
  gi_wp2_with (refine ⟨trivial, fun h => (by cases h), ?_⟩; gi_at_call 16; refine (callsIn_wide.2 HC.out).mono ?_; rintro e w1 ⟨rfl, b1⟩; have B1 := Lib.hid b1; clear b1)
  go_end0
  exact ⟨⟨_, rfl⟩, B1.out⟩
theorem all_thereS (bx : Nat) (w : World) : (binOp .eql 36 (.func (.func 27) #[] #[.pointer (some ⟨bx, 0, none⟩)]) Value.nilFunc).run Try.prog w = .ok (.bool false) w := by
  kernel_rfl
/-- What the law wants. -/
def wantN (n : Int) : Int := if n < 0 then 3 else if 536870912 < n then 8 else 0
theorem none_e1 (n : Int) : spE [] 0 0 [⟨n, 1⟩] = wantN n := by
  unfold spE wantN
  have h1 : anyBad [⟨n, 1⟩] = decide (n < 0) := by simp [anyBad, badW]
  have h2 : smW [⟨n, 1⟩] = n := by simp [smW]
  rw [h1, h2]
  by_cases h : n < 0
  · simp [h]
  · have : rcB ([] : List Int).length 0 0 = true := by decide
    rw [this]
    simp only [h, decide_false]
    by_cases h3 : 536870912 < n
    · rw [if_neg (by decide), if_neg (by decide), if_neg (by simp; omega), if_neg (by decide), if_pos h3]
    · rw [if_neg (by decide), if_neg (by decide), if_pos (by simp; omega), if_neg (by decide), if_neg h3]
theorem none_l1 (n : Int) (h : wantN n = 0) : ((spL [] 0 0 [⟨n, 1⟩]).length : Int) = n := by
  unfold spL
  rw [if_pos (by rw [none_e1]; exact h)]
  unfold wantN at h
  split at h
  · cases h
  · simp [flat, Rw.ck]; omega
theorem none_e2 (l : List Int) : spE l 0 0 [⟨1, 2⟩, ⟨536870912, 3⟩] = 8 := by
  unfold spE
  have h1 : anyBad [⟨1, 2⟩, ⟨536870912, 3⟩] = false := by decide
  have h2 : smW [⟨1, 2⟩, ⟨536870912, 3⟩] = 536870913 := by decide
  have h3 : rcB l.length 0 0 = true := (rcB_iff _ _ _).2 ⟨Int.le_refl _, Int.le_refl _, by omega⟩
  rw [h1, h2, h3, if_neg (by decide), if_neg (by decide), if_neg (by omega)]
theorem none_l2 (l : List Int) : spL l 0 0 [⟨1, 2⟩, ⟨536870912, 3⟩] = l := by
  unfold spL
  rw [none_e2, if_neg (by decide)]
set_option maxHeartbeats 2000000 in
theorem none_long (o : OpV) (n : Int) (w : World) (hl : ¬ o.l ≤ 100) (hl2 : (o.l : Int) ≤ 9223372036854775807) :
    Calls Try.prog 3 #[opA o, .int .i64 n] w fun e w' => e = .returned (.bool true) ∧ Below w.heap.size w w' := by
  have g0 : decide ((100 : Int) < (o.l : Int)) = true := decide_eq_true (by omega)
  rw [show opA o = .agg (opcs o) from rfl]
  have HW := Lib.hid (show Cb w.heap.size 24 (opcs o) ((w.alloc (.cells (opcs o) 24)).alloc (.cells #[.bool false] 4)) ∧ Cb (w.heap.size + 1) 4 #[.bool false] ((w.alloc (.cells (opcs o) 24)).alloc (.cells #[.bool false] 4)) ∧ Below w.heap.size w ((w.alloc (.cells (opcs o) 24)).alloc (.cells #[.bool false] 4)) from
    ⟨(cb_new w _ _).alloc _, by have := cb_new (w.alloc (.cells (opcs o) 24)) 4 #[.bool false]; simpa using this, ((Below.refl w.heap.size w).alloc (Nat.le_refl _) (.cells (opcs o) 24)).alloc (by simp) (.cells #[.bool false] 4)⟩)
  clear hl
  go_enter Try.func3, Try.ntmps3
  go_upto_region 1 with fail
  refine with_worldT (fun W => Cb w.heap.size 24 (opcs o) W ∧ Cb (w.heap.size + 1) 4 #[.bool false] W ∧ Below w.heap.size w W) HW.out fun W0 hW0 => ?_
  have c3 : W0.cell? ⟨w.heap.size, 3, none⟩ = some (.slice o.a o.l o.c) := hW0.1.cell 3
  have C1 := Lib.hid hW0.2.1
  have B1 := Lib.hid hW0.2.2
  clear hW0 HW
  go_wp2_with (go_at_call 8; refine (known11_any _).mono ?_; rintro e w1 ⟨rfl, bb⟩; have C2 := Lib.hid (C1.out.below bb); have c4 := (C1.out.below bb).cell 0; have f4 := (C1.out.below bb).frozen 0; have B2 := Lib.hid (below_add B1.out bb B1.out.size); clear bb)
  have C3 : Cb (w.heap.size + 1) 4 #[.bool true] (w1.setCell ⟨w.heap.size + 1, 0, none⟩ (.bool true)) := heap_set _ C2.out
  have c5 : _ = some (Value.bool true) := C3.cell 0
  have hb : Below w.heap.size w (w1.setCell ⟨w.heap.size + 1, 0, none⟩ (.bool true)) := B2.out.setCell (p := ⟨w.heap.size + 1, 0, none⟩) (by simp) (.bool true)
  refine bodyPost_ret (by simp [results, Try.results3, go_sem, c5]) rfl ⟨rfl, hb⟩
set_option maxHeartbeats 4000000 in
theorem none_main (o : OpV) (n : Int) (w : World) (hl : o.l ≤ 100) :
    Calls Try.prog 3 #[opA o, .int .i64 n] w fun e w' => e = .returned (.bool true) ∧ Below w.heap.size w w' := by
  have g0 : decide ((100 : Int) < (o.l : Int)) = false := decide_eq_false (by omega)
  rw [show opA o = .agg (opcs o) from rfl]
  have HW := Lib.hid (show Cb w.heap.size 24 (opcs o) ((w.alloc (.cells (opcs o) 24)).alloc (.cells #[.bool false] 4)) ∧ Cb (w.heap.size + 1) 4 #[.bool false] ((w.alloc (.cells (opcs o) 24)).alloc (.cells #[.bool false] 4)) ∧ Below w.heap.size w ((w.alloc (.cells (opcs o) 24)).alloc (.cells #[.bool false] 4)) from
    ⟨(cb_new w _ _).alloc _, by have := cb_new (w.alloc (.cells (opcs o) 24)) 4 #[.bool false]; simpa using this, ((Below.refl w.heap.size w).alloc (Nat.le_refl _) (.cells (opcs o) 24)).alloc (by simp) (.cells #[.bool false] 4)⟩)
  clear hl
  refine (callsIn_wide (n := 9)).1 ?_
  refine callsIn_of_wp_marks Try.func3 rfl trivial ?_ rfl
  simp only [Try.ntmps3, List.size_toArray, List.length_cons, List.length_nil, Nat.reduceAdd, Nat.reduceSub, Array.replicate_succ, Array.replicate_zero, List.push_toArray, List.append_toArray, List.nil_append, List.cons_append]
  refine wpIn_wide.2 ?_
  go_upto_region 1 with fail
  refine with_worldT (fun W => Cb w.heap.size 24 (opcs o) W ∧ Cb (w.heap.size + 1) 4 #[.bool false] W ∧ Below w.heap.size w W) HW.out fun W0 hW0 => ?_
  have c3 : W0.cell? ⟨w.heap.size, 3, none⟩ = some (.slice o.a o.l o.c) := hW0.1.cell 3
  have HW0 := Lib.hid hW0
  obtain ⟨bo, hbo⟩ : ∃ b, w.heap.size = b := ⟨_, rfl⟩
  obtain ⟨br, hbr⟩ : ∃ b, bo + 1 = b := ⟨_, rfl⟩
  clear hW0 HW
  have HWX := Lib.hid HW0.out.2.2
  have HBO := Lib.hid (show bo = w.heap.size from hbo.symm)
  have HBR := Lib.hid hbr
  rw [hbo] at HW0 c3 ⊢
  rw [hbr] at HW0 ⊢
  clear hbo hbr
  go_upto_region 5 with fail
  refine with_worldT (fun W => Cb bo 24 (opcs o) W ∧ Cb br 4 #[.bool false] W ∧ Cb W0.heap.size 29 #[.pointer none] W ∧ Below w.heap.size w W ∧ W0.heap.size < W.heap.size) ⟨HW0.out.1.alloc _, HW0.out.2.1.alloc _, cb_new W0 _ _, HWX.out.alloc HWX.out.size _, by rw [World.size_alloc]; omega⟩ fun W1 hW1 => ?_
  obtain ⟨bz, hbz⟩ : ∃ b, W0.heap.size = b := ⟨_, rfl⟩
  have HBZ := Lib.hid (show br < bz from by have := HW0.out.2.1.lt; omega)
  rw [hbz] at hW1 ⊢
  have HW1 := Lib.hid hW1
  clear hW1 hbz HW0 c3 HWX
  have c1 : W1.cell? ⟨bo, 1, none⟩ = some (.int .i64 o.i) := HW1.out.1.cell 1
  have c2 : W1.cell? ⟨bo, 2, none⟩ = some (.int .i64 o.j) := HW1.out.1.cell 2
  have hq := all_thereS
  go_wp2_with (first
    | (go_at_call 9; refine (nil_at _ _).mono ?_; rintro e wx ⟨rfl, hw⟩; have hw := hw.symm; subst hw)
    | (go_at_call 10; refine (nil_over _ _ _).mono ?_; rintro e wx ⟨rfl, hw⟩; have hw := hw.symm; subst hw)
    | (go_at_call 11; refine (all_any none _).mono ?_; rintro e w2 ⟨bx, rfl, hc, -, bb⟩; have C2 := Lib.hid hc; have B2 := Lib.hid bb; clear hc bb))
  refine (wpIn_wide (n := 9)).1 ?_
  refine wpIn_range_none11 rfl (by decide) (gf := 27) (lb := #[.pointer (some ⟨bx, 0, none⟩)]) rfl trivial (enters_of Try.func27 (by kernel_rfl) rfl) (fun l W hb => nil_all1 _ l bx W (C2.out.below hb)) ?_
  rintro D W2 hD hb hK
  have B22 := Lib.hid (below_add B2.out hb B2.out.size)
  have HDD := Lib.hid (show br < D by have := HW1.out.2.1.lt; have := B2.out.size; omega)
  have HDZ := Lib.hid (show D ≠ bz by have := HW1.out.2.2.1.lt; have := B2.out.size; omega)
  have HW2 := Lib.hid (show Cb bo 24 (opcs o) W2 ∧ Cb br 4 #[.bool false] W2 ∧ Cb bz 29 #[.pointer none] W2 ∧ Below w.heap.size w W2 from ⟨HW1.out.1.below B22.out, HW1.out.2.1.below B22.out, HW1.out.2.2.1.below B22.out, below_add HW1.out.2.2.2.1 B22.out HW1.out.2.2.2.1.size⟩)
  have HK := Lib.hid hK
  clear c1 c2 C2 B2 hb hK hD B22 HW1
  have c0 : W2.cell? ⟨bo, 0, none⟩ = some (.int .i64 o.k) := HW2.out.1.cell 0
  have c1 : W2.cell? ⟨bo, 1, none⟩ = some (.int .i64 o.i) := HW2.out.1.cell 1
  have c2 : W2.cell? ⟨bo, 2, none⟩ = some (.int .i64 o.j) := HW2.out.1.cell 2
  have c3 : W2.cell? ⟨bo, 3, none⟩ = some (.slice o.a o.l o.c) := HW2.out.1.cell 3
  have c4 : W2.cell? ⟨bo, 4, none⟩ = some (.int .i64 o.b) := HW2.out.1.cell 4
  have c5 : W2.cell? ⟨bo, 5, none⟩ = some (.int .i64 o.p) := HW2.out.1.cell 5
  have HZ := Lib.hid (show RX (fun k => bz ≤ k ∧ k ≠ D) bz [] W2 from ⟨⟨fun k => k = bz, .inl ⟨rfl, HW2.out.2.2.1, rfl⟩, fun k hk => by subst hk; exact ⟨⟨Nat.le_refl _, fun e => HDZ.out e.symm⟩, HW2.out.2.2.1.lt⟩⟩, by decide, fun i hi => (by cases hi)⟩)
  have Z2 := Lib.hid (Below.refl W2.heap.size W2)
  gi_wp2
  go_upto_region 14 with (first
    | (go_at_call 12; refine (nil_splice _ _ _ _).mono ?_; rintro e wx ⟨rfl, hw⟩; have hw := hw.symm; subst hw)
    | (go_at_call 13; refine (nil_map _ _ _ _).mono ?_; rintro e wx ⟨rfl, hw⟩; have hw := hw.symm; subst hw)
    | (go_at_call 15; refine (nil_len _).mono ?_; rintro e w3 ⟨rfl, bb⟩; have Z3 := Lib.hid (below_add Z2.out bb Z2.out.size); clear bb Z2)
    | (go_at_call 16; refine (nil_count _).mono ?_; rintro e w4 ⟨rfl, bb⟩; have Z4 := Lib.hid (below_add Z3.out bb Z3.out.size); clear bb Z3)
    | (go_at_call 17; refine (nil_height _).mono ?_; rintro e w5 ⟨rfl, bb⟩; have Z5 := Lib.hid (below_add Z4.out bb Z4.out.size); have HZ5 := Lib.hid (rv_len ((HZ.out.below Z5.out).rv (B := bz) (fun k hk => hk.1))); clear bb Z4)
    | (go_at_call 18; refine (nil_copy _).mono ?_; rintro e wx ⟨rfl, hw⟩; have hw := hw.symm; subst hw)
    | (go_at_call 15; refine HZ5.out.mono ?_; rintro e w6 ⟨rfl, bb⟩; have Z6 := Lib.hid (below_add Z5.out bb Z5.out.size); clear bb Z5 HZ5))
  have HB6 := Lib.hid (show Below w.heap.size w w6 from below_add HW2.out.2.2.2 Z6.out HW2.out.2.2.2.size)
  have HK6 := Lib.hid (show w6.heap[D]? = some (.deferred (some [])) from (Z6.out.block D (lt_of_heap HK.out)).trans HK.out)
  have HC6 := Lib.hid (HW2.out.2.1.below Z6.out)
  have HZ6 := Lib.hid (HZ.out.below Z6.out)
  have HX6 := Lib.hid (show ∀ k, w6.heap.size ≤ k → bz ≤ k ∧ k ≠ D from fun k hk => by have := lt_of_heap HK6.out; have := HW2.out.2.2.1.lt; have := Z6.out.size; exact ⟨by omega, by omega⟩)
  have HWB := Lib.hid (show w.heap.size ≤ br ∧ w.heap.size ≤ bz ∧ w.heap.size ≤ D by have := HBO.out; have := HBR.out; have := HBZ.out; have := HDD.out; exact ⟨by omega, by omega, by omega⟩)
  have S1 := Lib.hid (rx_splice HZ6.out (below_alloc1 w6 (.cells #[.int .i64 n, .int .i64 1] 44)) (fun k hk => HX6.out k (by rw [World.size_alloc] at hk; omega)) (by show 0 + 1 ≤ 20000; decide) 0 0 _ (rowX_built (X := fun k => bz ≤ k ∧ k ≠ D) (z := w6.heap.size) (w := w6) [⟨n, 1⟩] rfl (by show 1 ≤ 1000; decide) (Nat.le_refl _)))
  rw [none_e1] at S1
  obtain ⟨L1, hL1⟩ : ∃ L, spL [] 0 0 [⟨n, 1⟩] = L := ⟨_, rfl⟩
  have HL1 := Lib.hid (show wantN n = 0 → ((L1.length : Nat) : Int) = n from fun h => by rw [← hL1]; exact none_l1 n h)
  have HQ1 : Hid (cntR L1 ≤ 100) := Lib.hid (by rw [← hL1]; have := spL_cnt [] 0 0 [⟨n, 1⟩]; rw [cntR_nil] at this; simp at this; omega)
  rw [hL1] at S1
  have S2 := Lib.hid (fun (w7 : World) (h : RX (fun k => bz ≤ k ∧ k ≠ D) bz L1 w7) (hs : w6.heap.size ≤ w7.heap.size) => rx_splice h (below_alloc1 w7 (.cells #[.int .i64 1, .int .i64 2, .int .i64 536870912, .int .i64 3] 44)) (fun k hk => HX6.out k (by rw [World.size_alloc] at hk; omega)) (by have := HQ1.out; simp; omega) 0 0 _ (rowX_built (X := fun k => bz ≤ k ∧ k ≠ D) (z := w7.heap.size) (w := w7) [⟨1, 2⟩, ⟨536870912, 3⟩] rfl (by decide) (Nat.le_refl _)))
  rw [none_e2, none_l2] at S2
  have HEND := Lib.hid (fun (w8 w9 : World) (a1 : Off (fun k => bz ≤ k ∧ k ≠ D) w6 w8) (a2 : Below w8.heap.size w8 w9) => (show Below w.heap.size w w9 ∧ w9.heap[D]? = some (.deferred (some [])) ∧ Cb br 4 #[.bool false] w9 from
    ⟨below_add (HB6.out.trans (a1.below (fun k hk => Nat.le_trans HWB.out.2.1 hk.1) HB6.out.size)) a2 (Nat.le_trans HB6.out.size a1.size),
     (a2.block D (Nat.lt_of_lt_of_le (lt_of_heap HK6.out) a1.size)).trans ((a1.block D (lt_of_heap HK6.out) (fun h => h.2 rfl)).trans HK6.out),
     (HC6.out.off a1 (fun h => by have := HBZ.out; omega)).below a2⟩))
  have HDB := Lib.hid (show D ≠ br by have := HDD.out; omega)
  clear hL1 c0 c1 c2 c3 c4 c5 HW2 HK HZ Z6 HB6 HBO HBR hq
  by_cases h1 : n < 0
  · have g1 : decide (n < 0) = true := decide_eq_true h1
    have hw : wantN n = 3 := by unfold wantN; rw [if_pos h1]
    rw [hw] at S1
    go_wp2_with (first
      | (go_at_call 12; refine S1.out.mono ?_; rintro e w7 ⟨rfl, rr, oo⟩; have R7 := Lib.hid rr; have O7 := Lib.hid ((Off.of_below (below_alloc1 w6 (.cells #[.int .i64 n, .int .i64 1] 44))).seq oo); clear rr oo S1; have S2' := Lib.hid (S2.out w7 R7.out O7.out.size); clear S2)
      | (go_at_call 12; refine S2'.out.mono ?_; rintro e w8 ⟨rfl, rr, oo⟩; have R8 := Lib.hid rr; have O8 := Lib.hid (O7.out.seq ((Off.of_below (below_alloc1 w7 (.cells #[.int .i64 1, .int .i64 2, .int .i64 536870912, .int .i64 3] 44))).seq oo)); clear rr oo S2'; have ZL := Lib.hid (Below.refl w8.heap.size w8))
      | (go_at_call 8; refine (known11_any _).mono ?_; rintro e wk ⟨rfl, bb⟩; have ZK := Lib.hid (below_add ZL.out bb ZL.out.size); clear bb; obtain ⟨e1, e2, e3⟩ := HEND.out _ _ O8.out ZK.out; have k1 := e3.cell 0; have k2 := e3.frozen 0))
    have k3 : Cb br 4 #[.bool true] (wk.setCell ⟨br, 0, none⟩ (.bool true)) := heap_set _ e3
    have q2 := (KeepsOthers.setCell wk ⟨br, 0, none⟩ (.bool true)).same D _ e2 rfl
    have b2 := e1.setCell (p := ⟨br, 0, none⟩) HWB.out.1 (.bool true)
    generalize wk.setCell ⟨br, 0, none⟩ (.bool true) = W4 at *
    have hG5 := grownBy_putObj' W4 D (.deferred none)
    have k5 : (W4.putObj D (.deferred none)).cell? ⟨br, 0, none⟩ = some (.bool true) := cell_kept (k3.cell 0) hG5 (fun r e => by cases e; exact ⟨_, q2, rfl⟩)
    have b5 := b2.trans (belowK_b (w := w) (Nat.le_refl _) W4 D _ (.deferred none) HWB.out.2.2 q2 rfl rfl)
    refine ⟨by simp, .inl ⟨_, _, rfl, run_takeDeferred q2, ?_⟩⟩
    refine ⟨.bool true, ?_, rfl, b5⟩
    simp [results, Try.f3, go_sem, k5]
  · have g1 : decide (n < 0) = false := decide_eq_false h1
    by_cases h2 : 536870912 < n
    · have g2 : decide ((536870912 : Int) < n) = true := decide_eq_true h2
      have hw : wantN n = 8 := by unfold wantN; rw [if_neg h1, if_pos h2]
      rw [hw] at S1
      go_wp2_with (first
        | (go_at_call 12; refine S1.out.mono ?_; rintro e w7 ⟨rfl, rr, oo⟩; have R7 := Lib.hid rr; have O7 := Lib.hid ((Off.of_below (below_alloc1 w6 (.cells #[.int .i64 n, .int .i64 1] 44))).seq oo); clear rr oo S1; have S2' := Lib.hid (S2.out w7 R7.out O7.out.size); clear S2)
        | (go_at_call 12; refine S2'.out.mono ?_; rintro e w8 ⟨rfl, rr, oo⟩; have R8 := Lib.hid rr; have O8 := Lib.hid (O7.out.seq ((Off.of_below (below_alloc1 w7 (.cells #[.int .i64 1, .int .i64 2, .int .i64 536870912, .int .i64 3] 44))).seq oo)); clear rr oo S2'; have ZL := Lib.hid (Below.refl w8.heap.size w8))
        | (go_at_call 8; refine (known11_any _).mono ?_; rintro e wk ⟨rfl, bb⟩; have ZK := Lib.hid (below_add ZL.out bb ZL.out.size); clear bb; obtain ⟨e1, e2, e3⟩ := HEND.out _ _ O8.out ZK.out; have k1 := e3.cell 0; have k2 := e3.frozen 0))
      have k3 : Cb br 4 #[.bool true] (wk.setCell ⟨br, 0, none⟩ (.bool true)) := heap_set _ e3
      have q2 := (KeepsOthers.setCell wk ⟨br, 0, none⟩ (.bool true)).same D _ e2 rfl
      have b2 := e1.setCell (p := ⟨br, 0, none⟩) HWB.out.1 (.bool true)
      generalize wk.setCell ⟨br, 0, none⟩ (.bool true) = W4 at *
      have hG5 := grownBy_putObj' W4 D (.deferred none)
      have k5 : (W4.putObj D (.deferred none)).cell? ⟨br, 0, none⟩ = some (.bool true) := cell_kept (k3.cell 0) hG5 (fun r e => by cases e; exact ⟨_, q2, rfl⟩)
      have b5 := b2.trans (belowK_b (w := w) (Nat.le_refl _) W4 D _ (.deferred none) HWB.out.2.2 q2 rfl rfl)
      refine ⟨by simp, .inl ⟨_, _, rfl, run_takeDeferred q2, ?_⟩⟩
      refine ⟨.bool true, ?_, rfl, b5⟩
      simp [results, Try.f3, go_sem, k5]
    · have g2 : decide ((536870912 : Int) < n) = false := decide_eq_false h2
      have hw : wantN n = 0 := by unfold wantN; rw [if_neg h1, if_neg h2]
      rw [hw] at S1
      go_wp2_with (first
        | (go_at_call 12; refine S1.out.mono ?_; rintro e w7 ⟨rfl, rr, oo⟩; have R7 := Lib.hid rr; have O7 := Lib.hid ((Off.of_below (below_alloc1 w6 (.cells #[.int .i64 n, .int .i64 1] 44))).seq oo); clear rr oo S1; have S2' := Lib.hid (S2.out w7 R7.out O7.out.size); clear S2)
        | (go_at_call 12; refine S2'.out.mono ?_; rintro e w8 ⟨rfl, rr, oo⟩; have R8 := Lib.hid rr; have O8 := Lib.hid (O7.out.seq ((Off.of_below (below_alloc1 w7 (.cells #[.int .i64 1, .int .i64 2, .int .i64 536870912, .int .i64 3] 44))).seq oo)); clear rr oo S2'; have ZL := Lib.hid (Below.refl w8.heap.size w8))
        | (go_at_call 15; refine (rv_len (R8.out.rv (B := bz) (fun k hk => hk.1))).mono ?_; rintro e w9 ⟨rfl, bb⟩; rw [HL1.out hw]; have ZL := Lib.hid bb; clear bb)
        | (go_at_call 8; refine (known11_any _).mono ?_; rintro e wk ⟨rfl, bb⟩; have ZK := Lib.hid (below_add ZL.out bb ZL.out.size); clear bb; obtain ⟨e1, e2, e3⟩ := HEND.out _ _ O8.out ZK.out; have k1 := e3.cell 0; have k2 := e3.frozen 0))
      have k3 : Cb br 4 #[.bool true] (wk.setCell ⟨br, 0, none⟩ (.bool true)) := heap_set _ e3
      have q2 := (KeepsOthers.setCell wk ⟨br, 0, none⟩ (.bool true)).same D _ e2 rfl
      have b2 := e1.setCell (p := ⟨br, 0, none⟩) HWB.out.1 (.bool true)
      generalize wk.setCell ⟨br, 0, none⟩ (.bool true) = W4 at *
      have hG5 := grownBy_putObj' W4 D (.deferred none)
      have k5 : (W4.putObj D (.deferred none)).cell? ⟨br, 0, none⟩ = some (.bool true) := cell_kept (k3.cell 0) hG5 (fun r e => by cases e; exact ⟨_, q2, rfl⟩)
      have b5 := b2.trans (belowK_b (w := w) (Nat.le_refl _) W4 D _ (.deferred none) HWB.out.2.2 q2 rfl rfl)
      refine ⟨by simp, .inl ⟨_, _, rfl, run_takeDeferred q2, ?_⟩⟩
      refine ⟨.bool true, ?_, rfl, b5⟩
      simp [results, Try.f3, go_sem, k5]
theorem none_walk (o : OpV) (xs : List Rw) (n : Int) (w : World) (hx : Row RwC w o.s xs) :
    Calls Try.prog 3 #[opA o, .int .i64 n] w fun e w' => e = .returned (.bool true) ∧ Below w.heap.size w w' := by
  obtain ⟨a, cap, e⟩ := hx.shape
  have hln := hx.len
  injection e with e1 e2 e3
  by_cases hl : o.l ≤ 100
  · exact none_main o n w hl
  · exact none_long o n w hl (by rw [e2]; omega)
end Go.Proofs.Ytoppgdhidnpibaa
