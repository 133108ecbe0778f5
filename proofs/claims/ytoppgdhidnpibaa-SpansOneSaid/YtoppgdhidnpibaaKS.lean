
import Derived.Test.YtoppgdhidnpibaaKU
import Derived.Defers
import Derived.Recover
import Derived.Laws.Pointers
import Derived.RangeFuncNested
/- KM -/
/- KM: what a law's function makes of a number; asked for, come what may -/
namespace Go.Proofs.Ytoppgdhidnpibaa
open Go.RowKit
set_option linter.unusedVariables false
set_option maxRecDepth 100000

def byF (b : Int) : Int := if b < 0 ∨ 3 < b then 1 else b
def plF (p : Int) : Int := if (if 9 < p then 9 else p) < -9 then -9 else (if 9 < p then 9 else p)
/-- What a call's function makes of a number. -/
def mapF (b p id : Int) : Int := (wrap64 (wrap64 (id * byF b) + plF p)).tmod 1000
@[reducible] def opcs (o : OpV) : Array Value := #[.int .i64 o.k, .int .i64 o.i, .int .i64 o.j, .slice o.a o.l o.c, .int .i64 o.b, .int .i64 o.p]
theorem opinfo (o : OpV) : (Try.prog.info? 24).map (·.size) = some (opcs o).size := by show _ = some 6; kernel_rfl
set_option maxHeartbeats 1000000 in
theorem mapped_any (o : OpV) (id : Int) (w : World) : Calls Try.prog 14 #[opA o, .int .i64 id] w fun e w' => e = .returned (.int .i64 (mapF o.b o.p id)) ∧ Below w.heap.size w w' := by
  rw [show opA o = .agg (opcs o) from rfl]
  have hb := (Below.refl w.heap.size w).alloc (Nat.le_refl _) (.cells (opcs o) 24)
  have hc := cb_new w 24 (opcs o)
  have e0 : mapF o.b o.p id = (wrap64 (wrap64 (id * byF o.b) + plF o.p)).tmod 1000 := rfl
  rw [e0]
  obtain ⟨y, hy⟩ : ∃ y, byF o.b = y := ⟨_, rfl⟩
  obtain ⟨p, hp⟩ : ∃ p, plF o.p = p := ⟨_, rfl⟩
  rw [hy, hp]
  unfold byF at hy
  unfold plF at hp
  go_enter Try.func14, Try.ntmps14
  go_upto_region 1 with fail
  refine with_worldT (fun W => Cb w.heap.size 24 (opcs o) W ∧ Below w.heap.size w W) ⟨hc, hb⟩ fun W0 hW0 => ?_
  have K_0 := Lib.hid (hW0.1.below (below_drew _))
  have B_0 := Lib.hid hW0.2.drew
  clear hW0 hb hc e0
  refine h_start (S := fun W => Cb w.heap.size 24 (opcs o) W) (by kernel_rfl) ?_
  refine h_val (i := 0) (v := .pointer (some ⟨w.heap.size, 4, none⟩)) rfl (by kernel_rfl) (by kernel_rfl) (by kernel_rfl) (fun _ _ _ h => h) (by rfl) (fun wz hS => ?_) K_0.out ?_
  · go_simp
  go_frame
  refine h_val (i := 1) (v := .int .i64 o.b) rfl (by kernel_rfl) (by kernel_rfl) (by kernel_rfl) (fun _ _ _ h => h) (by rfl) (fun wz hS => ?_) K_0.out ?_
  · have q : wz.cell? ⟨w.heap.size, 4, none⟩ = some (.int .i64 o.b) := hS.cell 4
    go_simp
  go_frame
  refine h_val (i := 2) (v := .pointer (some ⟨w.heap.size, 5, none⟩)) rfl (by kernel_rfl) (by kernel_rfl) (by kernel_rfl) (fun _ _ _ h => h) (by rfl) (fun wz hS => ?_) K_0.out ?_
  · go_simp
  go_frame
  refine h_val (i := 3) (v := .int .i64 o.p) rfl (by kernel_rfl) (by kernel_rfl) (by kernel_rfl) (fun _ _ _ h => h) (by rfl) (fun wz hS => ?_) K_0.out ?_
  · have q : wz.cell? ⟨w.heap.size, 5, none⟩ = some (.int .i64 o.p) := hS.cell 5
    go_simp
  go_frame
  refine h_all1 (i := 4) (by kernel_rfl) ?_
  refine o_step rfl (by rfl) ?_
  refine wp_val (v := .int .i64 o.b) (by go_simp) ?_
  refine ⟨K_0.out, ?_⟩
  go_frame
  refine h_all1 (i := 5) (by kernel_rfl) ?_
  refine o_step rfl (by rfl) ?_
  refine wp_val (v := .int .i64 o.p) (by go_simp) ?_
  refine ⟨K_0.out, ?_⟩
  go_frame
  refine h_done (by kernel_rfl) ?_
  by_cases h1 : o.b < 0 <;> by_cases h2 : 3 < o.b <;> by_cases h3 : 9 < o.p <;> by_cases h4 : o.p < -9 <;>
  (simp only [h1, h2, h3, h4, or_true, true_or, or_self, if_true, if_false] at hy hp
   first
   | (exfalso; omega)
   | (subst hy
      try rw [if_neg (by decide : ¬ ((9 : Int) < -9))] at hp
      subst hp
      go_wp2
      go_ret
      first
      | exact ⟨rfl, B_0.out⟩
      | exact ⟨by rw [Int.mul_one]; rfl, B_0.out⟩))
end Go.Proofs.Ytoppgdhidnpibaa

/- KN -/
/- KN: ask -/
namespace Go.Proofs.Ytoppgdhidnpibaa
open Go.RowKit
set_option linter.unusedVariables false
set_option maxRecDepth 100000

theorem idle_any (p : Addr) (w : World) :
    CallsD Try.prog 52 #[.pointer (some p)] .returning w fun e u' w' => e = .returned (.tuple #[]) ∧ u' = .returning ∧ w' = w := by
  refine callsD_of_wpS Try.func52 rfl fun c₀ cs hu => ?_
  apply wpS_seq
  apply wpS_region
  simp [wpOpsS, go_sem, recoverD, hu, Try.ntmps52, Exit.thenS]
  refine wpS_cond (t := false) (by simp [Act.eval, Array.replicate]) ?_
  simp only [Bool.false_eq_true, if_false]
  refine wpS_of_wp (Go.wp_skip ?_)
  cases c₀
  simp_all [bodyPostS, results, Try.results52]
theorem askA_any (o : OpV) (id : Int) (w : World) : Calls Try.prog 34 #[.func (.func 14) #[opA o] #[], .int .i64 id] w fun e w' => e = .returned (.int .i64 (mapF o.b o.p id)) ∧ Below w.heap.size w w' := by
  have hmf : ∀ (fn : Fn) (first cap : Array Value) (w : World), (Instr.makeFunc fn first cap).run Try.prog w = .ok (.func fn first cap) w := fun _ _ _ _ => rfl
  have eg : ∀ args w, (callFunc 14 args).run Try.prog w = .ok (.enter 14 args) w := enters_of Try.func14 (by kernel_rfl) rfl
  have HM := Lib.hid (fun w => mapped_any o id w)
  obtain ⟨ov, hov⟩ : ∃ ov, opA o = ov := ⟨_, rfl⟩
  obtain ⟨r, hr⟩ : ∃ r, mapF o.b o.p id = r := ⟨_, rfl⟩
  rw [hov, hr] at HM
  rw [hov, hr]
  clear hov hr
  have hb := (Below.refl w.heap.size w).alloc (Nat.le_refl _) (.cells #[.int .i64 0] 3)
  have HC := Lib.hid (cb_new w 3 #[.int .i64 0])
  have HB := Lib.hid hb
  clear hb
  go_enter_defers Try.func34, Try.ntmps34
  go_wp2_with (go_at_call 14; refine (HM.out _).mono ?_; rintro e w1 ⟨rfl, bb⟩; have C1 := Lib.hid (HC.out.below bb); have B1 := Lib.hid (below_add HB.out bb HB.out.size); have c1 := (HC.out.below bb).cell 0; have f1 := (HC.out.below bb).frozen 0; clear bb)
  refine leaves_cons (f := 52) (args := #[.pointer (some ⟨w.heap.size, 0, none⟩)]) (by simp) (by simp [go_sem]) ?_
  refine (idle_any ⟨w.heap.size, 0, none⟩ _).mono ?_
  rintro e u' w'' ⟨rfl, rfl, rfl⟩
  have c2 : Cb w.heap.size 3 #[.int .i64 r] (w1.setCell ⟨w.heap.size, 0, none⟩ (.int .i64 r)) := heap_set _ C1.out
  have c3 : _ = some (Value.int .i64 r) := c2.cell 0
  have b3 : Below w.heap.size w (w1.setCell ⟨w.heap.size, 0, none⟩ (.int .i64 r)) := B1.out.trans ((Off.of_grown (S := fun k => k = w.heap.size) (grown_set (w := w1) (g := w.heap.size) (o := 0) (.int .i64 r)) (fun g hg => by cases hg; rfl)).below (fun k hk => Nat.le_of_eq hk.symm) B1.out.size)
  simp [Leaves, settle, results, Try.results34, go_sem, c3]
  exact b3
/-- Both calls' functions, one behind the other, as a closure. -/
theorem both_any (oa ob : OpV) (pa pb : Nat) (id : Int) (w : World) (ha : Cb pa 24 (opcs oa) w) (hb : Cb pb 24 (opcs ob) w) :
    Calls Try.prog 20 #[.int .i64 id, .pointer (some ⟨pb, 0, none⟩), .pointer (some ⟨pa, 0, none⟩)] w fun e w' => e = .returned (.int .i64 (mapF ob.b ob.p (mapF oa.b oa.p id))) ∧ Below w.heap.size w w' := by
  have HA := Lib.hid (fun w => mapped_any oa id w)
  have HB := Lib.hid (fun w => mapped_any ob (mapF oa.b oa.p id) w)
  rw [show opA oa = .agg (opcs oa) from rfl] at HA
  rw [show opA ob = .agg (opcs ob) from rfl] at HB
  have IA := Lib.hid (opinfo oa)
  have IB := Lib.hid (opinfo ob)
  obtain ⟨ca, hca⟩ : ∃ ca, opcs oa = ca := ⟨_, rfl⟩
  obtain ⟨cb, hcb⟩ : ∃ cb, opcs ob = cb := ⟨_, rfl⟩
  obtain ⟨r1, hr1⟩ : ∃ r, mapF oa.b oa.p id = r := ⟨_, rfl⟩
  rw [hca, hr1] at HA
  rw [hr1] at HB ⊢
  obtain ⟨r2, hr2⟩ : ∃ r, mapF ob.b ob.p r1 = r := ⟨_, rfl⟩
  rw [hcb, hr2] at HB
  rw [hr2]
  rw [hca] at ha IA
  rw [hcb] at hb IB
  have K_0 := Lib.hid (show Cb pa 24 ca w.drew ∧ Cb pb 24 cb w.drew from ⟨ha.below (below_drew _), hb.below (below_drew _)⟩)
  have B_0 := Lib.hid (show Below w.heap.size w w.drew from below_drew w)
  clear ha hb hca hcb hr1 hr2
  go_enter Try.func20, Try.ntmps20
  go_upto_region 1 with fail
  refine h_start (S := fun W => Cb pa 24 ca W ∧ Cb pb 24 cb W) (by kernel_rfl) ?_
  refine h_val (i := 0) (v := .agg cb) rfl (by kernel_rfl) (by kernel_rfl) (by kernel_rfl) (fun _ _ _ h => h) (by rfl) (fun wz hS => ?_) K_0.out ?_
  · exact x_load 24 (.tmp 1) rfl pb rfl _ _ _ _ hS.2 Try.underlying24 rfl IB.out
  go_frame
  refine h_val (i := 1) (v := .agg ca) rfl (by kernel_rfl) (by kernel_rfl) (by kernel_rfl) (fun _ _ _ h => h) (by rfl) (fun wz hS => ?_) K_0.out ?_
  · exact x_load 24 (.tmp 2) rfl pa rfl _ _ _ _ hS.1 Try.underlying24 rfl IA.out
  go_frame
  refine h_val (i := 2) (v := .int .i64 id) rfl (by kernel_rfl) (by kernel_rfl) (by kernel_rfl) (fun _ _ _ h => h) (by rfl) (fun wz hS => ?_) K_0.out ?_
  · go_simp
  go_frame
  refine h_all1 (i := 3) (by kernel_rfl) ?_
  refine o_call (f := 14) (args := #[.agg ca, .int .i64 id]) rfl (by rfl) (by go_simp) ?_
  refine (HA.out _).mono ?_
  rintro e w1 ⟨rfl, b1⟩
  have K_1 := Lib.hid (And.intro (K_0.out.1.below b1) (K_0.out.2.below b1))
  have B_1 := Lib.hid (below_add B_0.out b1 B_0.out.size)
  clear b1
  refine ⟨_, rfl, K_1.out, ?_⟩
  go_frame
  refine h_all1 (i := 4) (by kernel_rfl) ?_
  refine o_call (f := 14) (args := #[.agg cb, .int .i64 r1]) rfl (by rfl) (by go_simp) ?_
  refine (HB.out _).mono ?_
  rintro e w2 ⟨rfl, b2⟩
  have K_2 := Lib.hid (And.intro (K_1.out.1.below b2) (K_1.out.2.below b2))
  have B_2 := Lib.hid (below_add B_1.out b2 B_1.out.size)
  clear b2
  refine ⟨_, rfl, K_2.out, ?_⟩
  go_frame
  refine h_all1 (i := 5) (by kernel_rfl) ?_
  refine o_step rfl (by rfl) ?_
  refine wp_val (v := .int .i64 r2) (by go_simp) ?_
  refine ⟨K_2.out, ?_⟩
  go_frame
  refine h_done (by kernel_rfl) ?_
  go_wp2
  go_ret
  exact ⟨rfl, B_2.out⟩
theorem askB_any (oa ob : OpV) (pa pb : Nat) (id : Int) (w : World) (ha : Cb pa 24 (opcs oa) w) (hb : Cb pb 24 (opcs ob) w) : Calls Try.prog 34 #[.func (.func 20) #[] #[.pointer (some ⟨pb, 0, none⟩), .pointer (some ⟨pa, 0, none⟩)], .int .i64 id] w fun e w' => e = .returned (.int .i64 (mapF ob.b ob.p (mapF oa.b oa.p id))) ∧ Below w.heap.size w w' := by
  have hmf : ∀ (fn : Fn) (first cap : Array Value) (w : World), (Instr.makeFunc fn first cap).run Try.prog w = .ok (.func fn first cap) w := fun _ _ _ _ => rfl
  have eg : ∀ args w, (callFunc 20 args).run Try.prog w = .ok (.enter 20 args) w := enters_of Try.func20 (by kernel_rfl) rfl
  have HM := Lib.hid (fun w' (hw : Below w.heap.size w w') => both_any oa ob pa pb id w' (ha.below hw) (hb.below hw))
  obtain ⟨r, hr⟩ : ∃ r, mapF ob.b ob.p (mapF oa.b oa.p id) = r := ⟨_, rfl⟩
  rw [hr] at HM
  rw [hr]
  clear hr ha hb
  have hbb := (Below.refl w.heap.size w).alloc (Nat.le_refl _) (.cells #[.int .i64 0] 3)
  have HC := Lib.hid (cb_new w 3 #[.int .i64 0])
  have HB := Lib.hid hbb
  clear hbb
  go_enter_defers Try.func34, Try.ntmps34
  go_wp2_with (go_at_call 20; refine (HM.out _ HB.out).mono ?_; rintro e w1 ⟨rfl, bb⟩; have C1 := Lib.hid (HC.out.below bb); have B1 := Lib.hid (below_add HB.out bb HB.out.size); have c1 := (HC.out.below bb).cell 0; have f1 := (HC.out.below bb).frozen 0; clear bb)
  refine leaves_cons (f := 52) (args := #[.pointer (some ⟨w.heap.size, 0, none⟩)]) (by simp) (by simp [go_sem]) ?_
  refine (idle_any ⟨w.heap.size, 0, none⟩ _).mono ?_
  rintro e u' w'' ⟨rfl, rfl, rfl⟩
  have c2 : Cb w.heap.size 3 #[.int .i64 r] (w1.setCell ⟨w.heap.size, 0, none⟩ (.int .i64 r)) := heap_set _ C1.out
  have c3 : _ = some (Value.int .i64 r) := c2.cell 0
  have b3 : Below w.heap.size w (w1.setCell ⟨w.heap.size, 0, none⟩ (.int .i64 r)) := B1.out.trans ((Off.of_grown (S := fun k => k = w.heap.size) (grown_set (w := w1) (g := w.heap.size) (o := 0) (.int .i64 r)) (fun g hg => by cases hg; rfl)).below (fun k hk => Nat.le_of_eq hk.symm) B1.out.size)
  simp [Leaves, settle, results, Try.results34, go_sem, c3]
  exact b3
end Go.Proofs.Ytoppgdhidnpibaa

/- KO -/
/- KO: Map -/
namespace Go.Proofs.Ytoppgdhidnpibaa
open Go.RowKit
set_option linter.unusedVariables false
set_option maxRecDepth 100000

/-- A span of which the number is told anew. -/
def gkF (g : Int → Int) (x : Ck) : Ck := ⟨x.n, g x.d⟩
/-- The spans that Map puts in. -/
def mpX (l : List Int) (i j : Int) (g : Int → Int) : List Rw := ((rl (part l i j)).map (gkF g)).map fun y => ⟨(y.n : Nat), y.d⟩
def mpE (l : List Int) (i j : Int) (g : Int → Int) : Int := if rcB l.length i j = true then spE l i j (mpX l i j g) else 5
def mpL (l : List Int) (i j : Int) (g : Int → Int) : List Int := if rcB l.length i j = true then spL l i j (mpX l i j g) else l
/-- The row, when k of its spans are told anew. -/
def lkF (g : Int → Int) (P : List Ck) (k : Nat) : List Ck := (P.take k).map (gkF g) ++ P.drop k
theorem lkF_len (g : Int → Int) (P : List Ck) {k : Nat} (h : k ≤ P.length) : (lkF g P k).length = P.length := by
  unfold lkF
  rw [List.length_append, List.length_map, List.length_take, List.length_drop]; omega
theorem lkF_zero (g : Int → Int) (P : List Ck) : lkF g P 0 = P := by simp [lkF]
theorem lkF_all (g : Int → Int) (P : List Ck) : lkF g P P.length = P.map (gkF g) := by simp [lkF]
theorem lkF_at (g : Int → Int) (P : List Ck) {k : Nat} (h : k < P.length) : (lkF g P k)[k]? = some P[k] := by
  unfold lkF
  rw [List.getElem?_append_right (by rw [List.length_map, List.length_take]; omega), List.length_map, List.length_take, Nat.min_eq_left (Nat.le_of_lt h), Nat.sub_self, List.getElem?_drop]
  simp [h]
theorem fl_pair (A R : List Ck) (x : Ck) (d : Int) : (Go.Proofs.Ytoppgdhidnpibaa.fl CkC (A ++ x :: R)).set (A.length * 2 + 1) (.int .i64 d) = Go.Proofs.Ytoppgdhidnpibaa.fl CkC (A ++ ⟨x.n, d⟩ :: R) := by
  have hA : (Go.Proofs.Ytoppgdhidnpibaa.fl CkC A).length = A.length * 2 := fl_len CkC A
  rw [fl_app, fl_app, fl_cons, fl_cons, List.set_append_right _ _ (by omega), hA, show A.length * 2 + 1 - A.length * 2 = 1 by omega]
  rfl
theorem lkF_set (g : Int → Int) (P : List Ck) {k : Nat} (h : k < P.length) : (Go.Proofs.Ytoppgdhidnpibaa.fl CkC (lkF g P k)).set (k * 2 + 1) (.int .i64 (g P[k].d)) = Go.Proofs.Ytoppgdhidnpibaa.fl CkC (lkF g P (k + 1)) := by
  unfold lkF
  have e1 : P.drop k = P[k] :: P.drop (k + 1) := List.drop_eq_getElem_cons h
  have e2 : P.take (k + 1) = P.take k ++ [P[k]] := List.take_succ_eq_append_getElem h
  have e3 : ((P.take k).map (gkF g)).length = k := by rw [List.length_map, List.length_take]; omega
  have := fl_pair ((P.take k).map (gkF g)) (P.drop (k + 1)) P[k] (g P[k].d)
  rw [e3] at this
  rw [e1, this, e2, List.map_append, List.append_assoc]
  rfl
theorem cnt_part (l : List Int) (i j : Int) : (rl (part l i j)).length ≤ cntR l := by
  show cntR (part l i j) ≤ _
  unfold part
  exact Nat.le_trans (cntR_drop _ _) (cntR_take _ _)
theorem mpX_len (l : List Int) (i j : Int) (g : Int → Int) : (mpX l i j g).length ≤ cntR l := by
  unfold mpX
  rw [List.length_map, List.length_map]; exact cnt_part l i j
theorem mpL_cnt (l : List Int) (i j : Int) (g : Int → Int) : cntR (mpL l i j g) ≤ 2 * cntR l + 1 := by
  unfold mpL
  split
  · have := spL_cnt l i j (mpX l i j g)
    have := mpX_len l i j g
    omega
  · omega
theorem below_le {B z : Nat} {a c : World} (h : Below z a c) (hB : B ≤ z) : Below B a c := ⟨h.os, h.tape, h.output, h.size, fun k hk => h.block k (Nat.lt_of_lt_of_le hk hB)⟩
section
variable {B rb : Nat} {l : List Int} {w w' W : World}
set_option maxHeartbeats 1000000 in
theorem rv_mapA (h : RV B rb l w) (hq : cntR l ≤ 10000) (i j : Int) (o : OpV) :
    Calls Try.prog 13 #[.pointer (some ⟨rb, 0, none⟩), .int .i64 i, .int .i64 j, .func (.func 14) #[opA o] #[]] w fun e w' => e = .returned (.int .i64 (mpE l i j (mapF o.b o.p))) ∧ RV B rb (mpL l i j (mapF o.b o.p)) w' ∧ Below B w w' := by
  have hB := h.hB
  cases hr : rcB l.length i j with
  | false =>
    have HO := Lib.hid (rv_over_no h i j hr)
    have e1 : mpE l i j (mapF o.b o.p) = 5 := by unfold mpE; rw [hr]; rfl
    have e2 : mpL l i j (mapF o.b o.p) = l := by unfold mpL; rw [hr]; rfl
    rw [e1, e2]
    have H0 := Lib.hid h
    have HBB := Lib.hid hB
    obtain ⟨fv, hfv⟩ : ∃ fv, Value.func (Fn.func 14) #[opA o] #[] = fv := ⟨_, rfl⟩
    rw [hfv]
    clear h hr hB e1 e2 hfv hq 
    go_enter Try.func13, Try.ntmps13
    go_wp2_with (go_at_call 10; refine HO.out.mono ?_; rintro e w1 ⟨rfl, bb⟩; have B1 := Lib.hid bb; clear bb)
    go_ret
    exact ⟨rfl, H0.out.below B1.out, below_le B1.out HBB.out⟩
  | true =>
    obtain ⟨a1, a2, a3⟩ := (rcB_iff _ _ _).1 hr
    have e1 : mpE l i j (mapF o.b o.p) = spE l i j (mpX l i j (mapF o.b o.p)) := by unfold mpE; rw [hr]; rfl
    have e2 : mpL l i j (mapF o.b o.p) = spL l i j (mpX l i j (mapF o.b o.p)) := by unfold mpL; rw [hr]; rfl
    rw [e1, e2]
    obtain ⟨i', hi'⟩ : ∃ k : Nat, i = k := ⟨i.toNat, by omega⟩
    obtain ⟨j', hj'⟩ : ∃ k : Nat, j = k := ⟨j.toNat, by omega⟩
    have hov := rv_over h (by omega) i' j' (by omega) (by omega)
    rw [← hi', ← hj'] at hov
    have HO := Lib.hid hov
    have HX := Lib.hid (mpX_len l i j (mapF o.b o.p))
    have H0 := Lib.hid h
    have HQ := Lib.hid hq
    have HBB := Lib.hid hB
    have HPL := Lib.hid (cnt_part l i j)
    have HASK := Lib.hid (fun d w (hw : True) => askA_any o d w)
    have HXX := Lib.hid (show mpX l i j (mapF o.b o.p) = ((rl (part l i j)).map (gkF (mapF o.b o.p))).map fun y => ⟨(y.n : Nat), y.d⟩ from rfl)
    obtain ⟨g, hg⟩ : ∃ g : Int → Int, (mapF o.b o.p) = g := ⟨_, rfl⟩
    rw [hg] at HX HXX ⊢
    rw [hg] at HASK
    obtain ⟨P, hP⟩ : ∃ P, rl (part l i j) = P := ⟨_, rfl⟩
    rw [hP] at HO HPL HXX
    obtain ⟨fv, hfv⟩ : ∃ fv, Value.func (Fn.func 14) #[opA o] #[] = fv := ⟨_, rfl⟩
    rw [hfv] at HASK ⊢
    clear h hr hB e1 e2 hfv hg hP hi' hj' a1 a2 a3 hov hq 
    go_enter Try.func13, Try.ntmps13
    go_wp2_with (go_at_call 10; refine HO.out.mono ?_; rintro e w1 ⟨v, b, rfl, hb, ho, bb⟩; have HBZ := Lib.hid hb; have OW := Lib.hid ho; have B1 := Lib.hid bb; clear hb bb; obtain ⟨va, vc, rfl, hva, -⟩ := own_shape ho; have HVA := Lib.hid hva; clear ho hva)
    have hpl : P.length ≤ 10000 := Nat.le_trans HPL.out HQ.out
    go_loopw [24] (fun s wr => ∃ k : Nat, k ≤ P.length ∧ s = .int .i64 k ∧ Hid (wr.ownsRow b 44 2 (.slice va P.length vc) P.length (Go.Proofs.Ytoppgdhidnpibaa.fl CkC (lkF g P k)) ∧ Below w.heap.size w wr)) (fun s _ => P.length - (intOf s).toNat)
    case atStart => exact ⟨0, Nat.zero_le _, rfl, Lib.hid ⟨by rw [lkF_zero]; exact OW.out, B1.out⟩⟩
    case round =>
      obtain ⟨k, hk, rfl, HI⟩ := hrel
      rename_i wr
      by_cases hlt : k < P.length
      · obtain ⟨g0, hg0⟩ : ∃ g0, va = some ⟨g0, 0, none⟩ := by
          rcases HVA.out with h | h
          · exfalso
            have := HI.out.1.2
            rcases this with ⟨-, h2⟩ | ⟨q, c, cur, hv, -⟩
            · omega
            · rw [h] at hv; injection hv with hv; cases hv
          · exact h
        subst hg0
        have hrow := (Row.of_owns (C := CkC) (xs := lkF g P k) (n := P.length) (e := 44) (base := b) HI.out.1).1
        have hll : P.length = (lkF g P k).length := (lkF_len g P hk).symm
        have hrow' := hrow
        rw [hll] at hrow'
        have hcc := ck_at hrow' (k := k) (by omega)
        have hat : (lkF g P k)[k]'(by omega) = P[k] := by
          have := lkF_at g P hlt
          rw [List.getElem?_eq_getElem (by omega)] at this
          injection this
        rw [hat, Nat.zero_add] at hcc
        have c1 := hcc.2
        have HST := Lib.hid (lkF_set g P hlt)
        have HOW := Lib.hid HI.out.1
        have HBW := Lib.hid HI.out.2
        have HA := Lib.hid (HASK.out P[k].d)
        obtain ⟨d, hd⟩ : ∃ d, P[k].d = d := ⟨_, rfl⟩
        rw [hd] at HA HST c1
        obtain ⟨d2, hd2⟩ : ∃ d2, g d = d2 := ⟨_, rfl⟩
        rw [hd2] at HA HST
        clear hrow hrow' hll hcc hat hd hd2 HI
        go_wp2_with (go_at_call 34; refine (HA.out _ trivial).mono ?_; rintro e w3 ⟨rfl, bb⟩; have O3 := Lib.hid (owns_kept HOW.out (fun q hq => bb.block q (own_lt7 HOW.out hq))); have B3 := Lib.hid (below_add HBW.out bb HBW.out.size); clear bb; obtain ⟨cur, hcur⟩ := own_tag O3.out rfl; have f3 := Cb.frozen (show Cb g0 44 cur w3 from hcur) (k * 2 + 1); have c3 : ∃ u, w3.cell? ⟨g0, k * 2 + 1, none⟩ = some u := (by
            have hr3 := (Row.of_owns (C := CkC) (xs := lkF g P k) (n := P.length) (e := 44) (base := b) O3.out).1
            rw [(lkF_len g P hk).symm] at hr3
            have := (ck_at hr3 (k := k) (by rw [lkF_len g P hk]; exact hlt)).2
            rw [Nat.zero_add] at this
            exact ⟨_, this⟩); obtain ⟨u3, c3⟩ := c3; clear hcur)
        go_roundw
        case rel =>
          refine ⟨k + 1, hlt, by simp, Lib.hid ⟨?_, ?_⟩⟩
          · have := owns_set O3.out (j := k * 2 + 1) (.int .i64 d2)
            rw [HST.out] at this
            exact this
          · exact B3.out.trans ((Off.of_grown (S := fun q => q = g0) (grown_set (w := w3) (g := g0) (o := k * 2 + 1) (.int .i64 d2)) (fun q hq => by cases hq; rfl)).below (fun q hq => by rw [hq]; exact Nat.le_trans HBZ.out (own_base O3.out rfl)) B3.out.size)
        case measure => simp only [intOf]; omega
      · obtain rfl : k = P.length := by omega
        have HR := Lib.hid (show RowB B w.heap.size wr (.slice va P.length vc) (mpX l i j g) by
          rw [HXX.out]
          have := HI.out.1
          rw [lkF_all] at this
          have e : P.length = (P.map (gkF g)).length := by simp
          rw [e] at this ⊢
          exact rowB_own this HBZ.out)
        have HB9 := Lib.hid HI.out.2
        clear HI
        go_wp2_with (go_at_call 12; refine (rv_splice H0.out HB9.out (by have := HX.out; have := HQ.out; omega) i j _ HR.out).mono ?_; rintro e w4 ⟨rfl, q1, bb⟩; have R4 := Lib.hid q1; have B4 := Lib.hid ((below_le HB9.out HBB.out).trans bb); clear q1 bb)
        go_ret
        exact ⟨rfl, R4.out, B4.out⟩
set_option maxHeartbeats 1000000 in
theorem rv_mapB (h : RV B rb l w) (hq : cntR l ≤ 10000) (i j : Int) (oa ob : OpV) (pa pb : Nat) (ha : Cb pa 24 (opcs oa) w) (hb : Cb pb 24 (opcs ob) w) :
    Calls Try.prog 13 #[.pointer (some ⟨rb, 0, none⟩), .int .i64 i, .int .i64 j, .func (.func 20) #[] #[.pointer (some ⟨pb, 0, none⟩), .pointer (some ⟨pa, 0, none⟩)]] w fun e w' => e = .returned (.int .i64 (mpE l i j (fun id => mapF ob.b ob.p (mapF oa.b oa.p id)))) ∧ RV B rb (mpL l i j (fun id => mapF ob.b ob.p (mapF oa.b oa.p id))) w' ∧ Below B w w' := by
  have hB := h.hB
  cases hr : rcB l.length i j with
  | false =>
    have HO := Lib.hid (rv_over_no h i j hr)
    have e1 : mpE l i j (fun id => mapF ob.b ob.p (mapF oa.b oa.p id)) = 5 := by unfold mpE; rw [hr]; rfl
    have e2 : mpL l i j (fun id => mapF ob.b ob.p (mapF oa.b oa.p id)) = l := by unfold mpL; rw [hr]; rfl
    rw [e1, e2]
    have H0 := Lib.hid h
    have HBB := Lib.hid hB
    obtain ⟨fv, hfv⟩ : ∃ fv, Value.func (Fn.func 20) #[] #[.pointer (some ⟨pb, 0, none⟩), .pointer (some ⟨pa, 0, none⟩)] = fv := ⟨_, rfl⟩
    rw [hfv]
    clear h hr hB e1 e2 hfv hq ha hb
    go_enter Try.func13, Try.ntmps13
    go_wp2_with (go_at_call 10; refine HO.out.mono ?_; rintro e w1 ⟨rfl, bb⟩; have B1 := Lib.hid bb; clear bb)
    go_ret
    exact ⟨rfl, H0.out.below B1.out, below_le B1.out HBB.out⟩
  | true =>
    obtain ⟨a1, a2, a3⟩ := (rcB_iff _ _ _).1 hr
    have e1 : mpE l i j (fun id => mapF ob.b ob.p (mapF oa.b oa.p id)) = spE l i j (mpX l i j (fun id => mapF ob.b ob.p (mapF oa.b oa.p id))) := by unfold mpE; rw [hr]; rfl
    have e2 : mpL l i j (fun id => mapF ob.b ob.p (mapF oa.b oa.p id)) = spL l i j (mpX l i j (fun id => mapF ob.b ob.p (mapF oa.b oa.p id))) := by unfold mpL; rw [hr]; rfl
    rw [e1, e2]
    obtain ⟨i', hi'⟩ : ∃ k : Nat, i = k := ⟨i.toNat, by omega⟩
    obtain ⟨j', hj'⟩ : ∃ k : Nat, j = k := ⟨j.toNat, by omega⟩
    have hov := rv_over h (by omega) i' j' (by omega) (by omega)
    rw [← hi', ← hj'] at hov
    have HO := Lib.hid hov
    have HX := Lib.hid (mpX_len l i j (fun id => mapF ob.b ob.p (mapF oa.b oa.p id)))
    have H0 := Lib.hid h
    have HQ := Lib.hid hq
    have HBB := Lib.hid hB
    have HPL := Lib.hid (cnt_part l i j)
    have HASK := Lib.hid (fun d w' (hw : Below w.heap.size w w') => askB_any oa ob pa pb d w' (ha.below hw) (hb.below hw))
    have HXX := Lib.hid (show mpX l i j (fun id => mapF ob.b ob.p (mapF oa.b oa.p id)) = ((rl (part l i j)).map (gkF (fun id => mapF ob.b ob.p (mapF oa.b oa.p id)))).map fun y => ⟨(y.n : Nat), y.d⟩ from rfl)
    obtain ⟨g, hg⟩ : ∃ g : Int → Int, (fun id => mapF ob.b ob.p (mapF oa.b oa.p id)) = g := ⟨_, rfl⟩
    rw [hg] at HX HXX ⊢
    have HASK : Hid (∀ d w', Below w.heap.size w w' → _) := Lib.hid (fun d w' hw => by have := HASK.out d w' hw; rw [show mapF ob.b ob.p (mapF oa.b oa.p d) = g d by rw [← hg]] at this; exact this)
    obtain ⟨P, hP⟩ : ∃ P, rl (part l i j) = P := ⟨_, rfl⟩
    rw [hP] at HO HPL HXX
    obtain ⟨fv, hfv⟩ : ∃ fv, Value.func (Fn.func 20) #[] #[.pointer (some ⟨pb, 0, none⟩), .pointer (some ⟨pa, 0, none⟩)] = fv := ⟨_, rfl⟩
    rw [hfv] at HASK ⊢
    clear h hr hB e1 e2 hfv hg hP hi' hj' a1 a2 a3 hov hq ha hb
    go_enter Try.func13, Try.ntmps13
    go_wp2_with (go_at_call 10; refine HO.out.mono ?_; rintro e w1 ⟨v, b, rfl, hb, ho, bb⟩; have HBZ := Lib.hid hb; have OW := Lib.hid ho; have B1 := Lib.hid bb; clear hb bb; obtain ⟨va, vc, rfl, hva, -⟩ := own_shape ho; have HVA := Lib.hid hva; clear ho hva)
    have hpl : P.length ≤ 10000 := Nat.le_trans HPL.out HQ.out
    go_loopw [24] (fun s wr => ∃ k : Nat, k ≤ P.length ∧ s = .int .i64 k ∧ Hid (wr.ownsRow b 44 2 (.slice va P.length vc) P.length (Go.Proofs.Ytoppgdhidnpibaa.fl CkC (lkF g P k)) ∧ Below w.heap.size w wr)) (fun s _ => P.length - (intOf s).toNat)
    case atStart => exact ⟨0, Nat.zero_le _, rfl, Lib.hid ⟨by rw [lkF_zero]; exact OW.out, B1.out⟩⟩
    case round =>
      obtain ⟨k, hk, rfl, HI⟩ := hrel
      rename_i wr
      by_cases hlt : k < P.length
      · obtain ⟨g0, hg0⟩ : ∃ g0, va = some ⟨g0, 0, none⟩ := by
          rcases HVA.out with h | h
          · exfalso
            have := HI.out.1.2
            rcases this with ⟨-, h2⟩ | ⟨q, c, cur, hv, -⟩
            · omega
            · rw [h] at hv; injection hv with hv; cases hv
          · exact h
        subst hg0
        have hrow := (Row.of_owns (C := CkC) (xs := lkF g P k) (n := P.length) (e := 44) (base := b) HI.out.1).1
        have hll : P.length = (lkF g P k).length := (lkF_len g P hk).symm
        have hrow' := hrow
        rw [hll] at hrow'
        have hcc := ck_at hrow' (k := k) (by omega)
        have hat : (lkF g P k)[k]'(by omega) = P[k] := by
          have := lkF_at g P hlt
          rw [List.getElem?_eq_getElem (by omega)] at this
          injection this
        rw [hat, Nat.zero_add] at hcc
        have c1 := hcc.2
        have HST := Lib.hid (lkF_set g P hlt)
        have HOW := Lib.hid HI.out.1
        have HBW := Lib.hid HI.out.2
        have HA := Lib.hid (HASK.out P[k].d)
        obtain ⟨d, hd⟩ : ∃ d, P[k].d = d := ⟨_, rfl⟩
        rw [hd] at HA HST c1
        obtain ⟨d2, hd2⟩ : ∃ d2, g d = d2 := ⟨_, rfl⟩
        rw [hd2] at HA HST
        clear hrow hrow' hll hcc hat hd hd2 HI
        go_wp2_with (go_at_call 34; refine (HA.out _ HBW.out).mono ?_; rintro e w3 ⟨rfl, bb⟩; have O3 := Lib.hid (owns_kept HOW.out (fun q hq => bb.block q (own_lt7 HOW.out hq))); have B3 := Lib.hid (below_add HBW.out bb HBW.out.size); clear bb; obtain ⟨cur, hcur⟩ := own_tag O3.out rfl; have f3 := Cb.frozen (show Cb g0 44 cur w3 from hcur) (k * 2 + 1); have c3 : ∃ u, w3.cell? ⟨g0, k * 2 + 1, none⟩ = some u := (by
            have hr3 := (Row.of_owns (C := CkC) (xs := lkF g P k) (n := P.length) (e := 44) (base := b) O3.out).1
            rw [(lkF_len g P hk).symm] at hr3
            have := (ck_at hr3 (k := k) (by rw [lkF_len g P hk]; exact hlt)).2
            rw [Nat.zero_add] at this
            exact ⟨_, this⟩); obtain ⟨u3, c3⟩ := c3; clear hcur)
        go_roundw
        case rel =>
          refine ⟨k + 1, hlt, by simp, Lib.hid ⟨?_, ?_⟩⟩
          · have := owns_set O3.out (j := k * 2 + 1) (.int .i64 d2)
            rw [HST.out] at this
            exact this
          · exact B3.out.trans ((Off.of_grown (S := fun q => q = g0) (grown_set (w := w3) (g := g0) (o := k * 2 + 1) (.int .i64 d2)) (fun q hq => by cases hq; rfl)).below (fun q hq => by rw [hq]; exact Nat.le_trans HBZ.out (own_base O3.out rfl)) B3.out.size)
        case measure => simp only [intOf]; omega
      · obtain rfl : k = P.length := by omega
        have HR := Lib.hid (show RowB B w.heap.size wr (.slice va P.length vc) (mpX l i j g) by
          rw [HXX.out]
          have := HI.out.1
          rw [lkF_all] at this
          have e : P.length = (P.map (gkF g)).length := by simp
          rw [e] at this ⊢
          exact rowB_own this HBZ.out)
        have HB9 := Lib.hid HI.out.2
        clear HI
        go_wp2_with (go_at_call 12; refine (rv_splice H0.out HB9.out (by have := HX.out; have := HQ.out; omega) i j _ HR.out).mono ?_; rintro e w4 ⟨rfl, q1, bb⟩; have R4 := Lib.hid q1; have B4 := Lib.hid ((below_le HB9.out HBB.out).trans bb); clear q1 bb)
        go_ret
        exact ⟨rfl, R4.out, B4.out⟩
end
end Go.Proofs.Ytoppgdhidnpibaa

/- KP -/
/- KP: All -/
namespace Go.Proofs.Ytoppgdhidnpibaa
open Go.RowKit Go.Shelf
set_option linter.unusedVariables false
set_option maxRecDepth 100000
attribute [local go_sem] Oper.semAt_some

/-- What a round keeps: all that lay below n0, but for some. -/
structure KpX (n0 : Nat) (X : Nat → Prop) (W W' : World) : Prop where
  os : W'.os = W.os
  tape : W'.tape = W.tape
  output : W'.output = W.output
  size : W.heap.size ≤ W'.heap.size
  keep : ∀ k, k < n0 → k < W.heap.size → ¬ X k → W'.heap[k]? = W.heap[k]?
section
variable {n0 : Nat} {X S : Nat → Prop} {W W' W1 w w' : World} {rb bx : Nat} {l : List Int}
theorem KpX.refl (n0 : Nat) (X : Nat → Prop) (W : World) : KpX n0 X W W := ⟨rfl, rfl, rfl, Nat.le_refl _, fun _ _ _ _ => rfl⟩
theorem KpX.trans (h : KpX n0 X W W1) (k : KpX n0 X W1 W') : KpX n0 X W W' := ⟨k.os.trans h.os, k.tape.trans h.tape, k.output.trans h.output, Nat.le_trans h.size k.size, fun i hi hl hx => (k.keep i hi (Nat.lt_of_lt_of_le hl h.size) hx).trans (h.keep i hi hl hx)⟩
theorem KpX.of_below (h : Below W.heap.size W W') : KpX n0 X W W' := ⟨h.os, h.tape, h.output, h.size, fun k _ hk _ => h.block k hk⟩
theorem KpX.of_off (h : Off X W W') : KpX n0 X W W' := ⟨h.os, h.tape, h.output, h.size, fun k _ hk hx => h.block k hk hx⟩
theorem KpX.off (h : KpX n0 X W W') : Off (fun k => X k ∨ n0 ≤ k) W W' := ⟨h.os, h.tape, h.output, h.size, fun k hk hx => h.keep k (by
  rcases Nat.lt_or_ge k n0 with h | h
  · exact h
  · exact absurd (.inr h) hx) hk (fun hh => hx (.inl hh))⟩
theorem KpX.rp (h : KpX n0 X W W') (ht : Rp S rb l W) (hS : ∀ k, S k → k < n0 ∧ ¬ X k) : Rp S rb l W' := ht.off h.off (fun k hk hh => by
  have := hS k hk
  rcases hh with hh | hh
  · exact this.2 hh
  · omega)
theorem KpX.cb {b : Nat} {t : TypeId} {cs : Array Value} (h : KpX n0 X W W') (hc : Cb b t cs W) (hb : b < n0 ∧ ¬ X b) : Cb b t cs W' := hc.off h.off (fun hh => by
  rcases hh with hh | hh
  · exact hb.2 hh
  · omega)
theorem all_any (p : Option Addr) (w : World) : Calls Try.prog 11 #[.pointer p] w fun e w' => ∃ bx, e = .returned (.func (.func 27) #[] #[.pointer (some ⟨bx, 0, none⟩)]) ∧ Cb bx 26 #[.pointer p] w' ∧ w.heap.size ≤ bx ∧ Below w.heap.size w w' := by
  have H1 := Lib.hid (cb_new w 26 #[.pointer p])
  have H2 := Lib.hid ((Below.refl w.heap.size w).alloc (Nat.le_refl _) (.cells #[.pointer p] 26))
  go_enter Try.func11, Try.ntmps11
  go_wp2
  go_ret
  exact ⟨_, rfl, H1.out, Nat.le_refl _, H2.out⟩
set_option maxHeartbeats 2000000 in
theorem all1_sp (n ln : Nat) (hn : 3 ≤ n) (J Jx : List Ck → World → Prop) (hJB : ∀ pre W W', J pre W → Below W.heap.size W W' → J pre W') (hS : ∀ k, S k → k < n0 ∧ ¬ X k) (hbx : bx < n0 ∧ ¬ X bx)
    (hY : ∀ (pre : List Ck) (x : Ck) (W1 : World), J pre W1 → pre.length < (rl l).length → YieldAt Fence.wide (n - 1) Try.prog ln #[cvs x] W1 fun e W' =>
      (e = .returned (.bool true) ∧ J (pre ++ [x]) W' ∧ KpX n0 X W1 W') ∨ (e = .returned (.bool false) ∧ Jx (pre ++ [x]) W'))
    (W : World) (hc : Cb bx 26 #[.pointer (some ⟨rb, 0, none⟩)] W) (ht : Rp S rb l W) (hq : wq l ≤ 4000000000) (h0 : J [] W) :
    CallsIn Fence.wide n Try.prog 27 #[.func (.yield ln) #[] #[], .pointer (some ⟨bx, 0, none⟩)] W fun e W' => (∃ v, e = .returned v) ∧ ((∃ ys, ys = rl l ∧ J ys W') ∨ (∃ pre, pre <+: rl l ∧ Jx pre W')) := by
  have HTB := Lib.hid (fun (wr : World) (hk : KpX n0 X W wr) => (show Rp S rb l wr ∧ Cb bx 26 #[.pointer (some ⟨rb, 0, none⟩)] wr from ⟨hk.rp ht hS, hk.cb hc hbx⟩))
  have HY := Lib.hid hY
  have HJB := Lib.hid hJB
  have HQ := Lib.hid hq
  have hcnt : (rl l).length ≤ 400000 := by unfold wq cntR at hq; omega
  obtain ⟨L, hL⟩ : ∃ L, rl l = L := ⟨_, rfl⟩
  have HL := Lib.hid hL
  have HCN : Hid (cntR l = L.length) := Lib.hid (by rw [← hL]; rfl)
  rw [hL] at HY hcnt ⊢
  clear hY ht hc hJB hS hbx hq hL
  refine callsIn_of_wp Try.func27 rfl trivial ?_ rfl
  simp only [Try.ntmps27, List.size_toArray, List.length_cons, List.length_nil, Nat.reduceAdd, Nat.reduceSub, Array.replicate_succ, Array.replicate_zero, List.push_toArray, List.append_toArray, List.nil_append, List.cons_append]
  gi_wp2
  gi_loopw [3] (fun s3 wr => ∃ k : Nat, k ≤ L.length ∧ s3 = .int .i64 k ∧ KpX n0 X W wr ∧ J (L.take k) wr) (fun s3 _ => L.length - (intOf s3).toNat)
  case atStart => exact ⟨0, Nat.zero_le _, rfl, KpX.refl _ _ _, h0⟩
  case round =>
    obtain ⟨k, hk, rfl, hkp, hJ⟩ := hrel
    rename_i wr
    obtain ⟨hT, hcb⟩ := HTB.out wr hkp
    have HC := Lib.hid (sp_count hT)
    rw [HCN.out] at HC
    have HK := Lib.hid hkp
    have HJ := Lib.hid hJ
    have HCB := Lib.hid hcb
    have cb : wr.cell? ⟨bx, 0, none⟩ = some (.pointer (some ⟨rb, 0, none⟩)) := hcb.cell 0
    by_cases hlt : k < L.length
    · have g1 : decide ((k : Int) < (L.length : Int)) = true := by rw [decide_eq_true_iff]; omega
      have g2 : decide (k < L.length) = true := decide_eq_true hlt
      have HSP := Lib.hid (fun (w' : World) (hb : Below wr.heap.size wr w') => sp_span (hT.below hb) HQ.out k L[k] (by rw [HL.out]; exact List.getElem?_eq_getElem hlt))
      have HU := Lib.hid (show L.take (k + 1) = L.take k ++ [L[k]] from List.take_succ_eq_append_getElem hlt)
      have HYQ := Lib.hid (fun (w' : World) (hb : Below wr.heap.size wr w') => HY.out (L.take k) L[k] w' (HJB.out _ _ _ HJ.out hb) (by rw [List.length_take]; omega))
      obtain ⟨x, hx⟩ : ∃ x, L[k] = x := ⟨_, rfl⟩
      rw [hx] at HSP HU HYQ
      clear hT hcb hkp hJ hx HY
      gi_wp2_with (first
        | (refine ⟨trivial, fun h => (by cases h), ?_⟩; gi_at_call 16; refine (callsIn_wide.2 HC.out).mono ?_; rintro e w1 ⟨rfl, b1⟩; have B1 := Lib.hid b1; have cb1 : w1.cell? ⟨bx, 0, none⟩ = some (.pointer (some ⟨rb, 0, none⟩)) := (HCB.out.below b1).cell 0; clear b1)
        | (refine ⟨trivial, fun h => (by cases h), ?_⟩; gi_at_call 28; refine (callsIn_wide.2 (HSP.out _ B1.out)).mono ?_; rintro e w2 ⟨rfl, b2⟩; have B2 := Lib.hid (below_add B1.out b2 B1.out.size); obtain ⟨fn, tmps, assign, body, hy, hR⟩ := HYQ.out w2 (below_add B1.out b2 B1.out.size); clear b2))
      refine ⟨fun h => (by cases h), hR.mono ?_⟩
      rintro e W' (⟨rfl, hJ', hk'⟩ | ⟨rfl, hJx'⟩)
      · gi_wp2
        go_roundw
        case rel => exact ⟨k + 1, by omega, by go_num, (HK.out.trans (KpX.of_below B2.out)).trans hk', by rw [HU.out]; exact hJ'⟩
        case measure => simp [intOf]; omega
      · gi_wp2
        refine bodyPost_ret (results_none rfl _ _ _) rfl ?_
        exact ⟨⟨_, rfl⟩, .inr ⟨_, by rw [← HU.out]; exact List.take_prefix _ _, hJx'⟩⟩
    · obtain rfl : k = L.length := by omega
      have g1 : decide ((L.length : Int) < (L.length : Int)) = false := by rw [decide_eq_false_iff_not]; omega
      have HJ9 := Lib.hid (show ∀ w', Below wr.heap.size wr w' → J L w' from fun w' hb => by have := HJB.out _ _ _ HJ.out hb; rwa [List.take_of_length_le (Nat.le_refl _)] at this)
      clear hT hcb hkp hJ HY
      gi_wp2_with (refine ⟨trivial, fun h => (by cases h), ?_⟩; gi_at_call 16; refine (callsIn_wide.2 HC.out).mono ?_; rintro e w1 ⟨rfl, b1⟩; have B1 := Lib.hid b1; clear b1)
      go_end0
      exact ⟨⟨_, rfl⟩, .inl ⟨L, rfl, HJ9.out _ B1.out⟩⟩
end
end Go.Proofs.Ytoppgdhidnpibaa
