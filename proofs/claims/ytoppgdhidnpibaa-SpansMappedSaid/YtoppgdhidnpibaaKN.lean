
import Derived.Test.YtoppgdhidnpibaaKM
/- KN: ask -/
namespace Go.Proofs.Ytoppgdhidnpibaa
open Go.RowKit
set_option linter.unusedVariables false
set_option maxRecDepth 100000

theorem idle_any (p : Addr) (w : World) :
    CallsD Try.prog 52 #[.pointer (some p)] .returning w fun e u' w' => e = .returned (.tuple #[]) ∧ u' = .returning ∧ w' = w := by
  refine callsD_of_wpS Try.func52 rfl fun c₀ cs hu => ?_
  apply wpS_seq
  apply wpS_region
  simp [wpOpsS, go_sem, recoverD, hu, Try.ntmps52, Exit.thenS]
  refine wpS_cond (t := false) (by simp [Act.eval, Array.replicate]) ?_
  simp only [Bool.false_eq_true, if_false]
  refine wpS_of_wp (Go.wp_skip ?_)
  cases c₀
  simp_all [bodyPostS, results, Try.results52]
theorem askA_any (o : OpV) (id : Int) (w : World) : Calls Try.prog 34 #[.func (.func 14) #[opA o] #[], .int .i64 id] w fun e w' => e = .returned (.int .i64 (mapF o.b o.p id)) ∧ Below w.heap.size w w' := by
  have hmf : ∀ (fn : Fn) (first cap : Array Value) (w : World), (Instr.makeFunc fn first cap).run Try.prog w = .ok (.func fn first cap) w := fun _ _ _ _ => rfl
  have eg : ∀ args w, (callFunc 14 args).run Try.prog w = .ok (.enter 14 args) w := enters_of Try.func14 (by kernel_rfl) rfl
  have HM := Lib.hid (fun w => mapped_any o id w)
  obtain ⟨ov, hov⟩ : ∃ ov, opA o = ov := ⟨_, rfl⟩
  obtain ⟨r, hr⟩ : ∃ r, mapF o.b o.p id = r := ⟨_, rfl⟩
  rw [hov, hr] at HM
  rw [hov, hr]
  clear hov hr
  have hb := (Below.refl w.heap.size w).alloc (Nat.le_refl _) (.cells #[.int .i64 0] 3)
  have HC := Lib.hid (cb_new w 3 #[.int .i64 0])
  have HB := Lib.hid hb
  clear hb
  go_enter_defers Try.func34, Try.ntmps34
  go_wp2_with (go_at_call 14; refine (HM.out _).mono ?_; rintro e w1 ⟨rfl, bb⟩; have C1 := Lib.hid (HC.out.below bb); have B1 := Lib.hid (below_add HB.out bb HB.out.size); have c1 := (HC.out.below bb).cell 0; have f1 := (HC.out.below bb).frozen 0; clear bb)
  refine leaves_cons (f := 52) (args := #[.pointer (some ⟨w.heap.size, 0, none⟩)]) (by simp) (by simp [go_sem]) ?_
  refine (idle_any ⟨w.heap.size, 0, none⟩ _).mono ?_
  rintro e u' w'' ⟨rfl, rfl, rfl⟩
  have c2 : Cb w.heap.size 3 #[.int .i64 r] (w1.setCell ⟨w.heap.size, 0, none⟩ (.int .i64 r)) := heap_set _ C1.out
  have c3 : _ = some (Value.int .i64 r) := c2.cell 0
  have b3 : Below w.heap.size w (w1.setCell ⟨w.heap.size, 0, none⟩ (.int .i64 r)) := B1.out.trans ((Off.of_grown (S := fun k => k = w.heap.size) (grown_set (w := w1) (g := w.heap.size) (o := 0) (.int .i64 r)) (fun g hg => by cases hg; rfl)).below (fun k hk => Nat.le_of_eq hk.symm) B1.out.size)
  simp [Leaves, settle, results, Try.results34, go_sem, c3]
  exact b3
/-- Both calls' functions, one behind the other, as a closure. -/
theorem both_any (oa ob : OpV) (pa pb : Nat) (id : Int) (w : World) (ha : Cb pa 24 (opcs oa) w) (hb : Cb pb 24 (opcs ob) w) :
    Calls Try.prog 20 #[.int .i64 id, .pointer (some ⟨pb, 0, none⟩), .pointer (some ⟨pa, 0, none⟩)] w fun e w' => e = .returned (.int .i64 (mapF ob.b ob.p (mapF oa.b oa.p id))) ∧ Below w.heap.size w w' := by
  have HA := Lib.hid (fun w => mapped_any oa id w)
  have HB := Lib.hid (fun w => mapped_any ob (mapF oa.b oa.p id) w)
  rw [show opA oa = .agg (opcs oa) from rfl] at HA
  rw [show opA ob = .agg (opcs ob) from rfl] at HB
  have IA := Lib.hid (opinfo oa)
  have IB := Lib.hid (opinfo ob)
  obtain ⟨ca, hca⟩ : ∃ ca, opcs oa = ca := ⟨_, rfl⟩
  obtain ⟨cb, hcb⟩ : ∃ cb, opcs ob = cb := ⟨_, rfl⟩
  obtain ⟨r1, hr1⟩ : ∃ r, mapF oa.b oa.p id = r := ⟨_, rfl⟩
  rw [hca, hr1] at HA
  rw [hr1] at HB ⊢
  obtain ⟨r2, hr2⟩ : ∃ r, mapF ob.b ob.p r1 = r := ⟨_, rfl⟩
  rw [hcb, hr2] at HB
  rw [hr2]
  rw [hca] at ha IA
  rw [hcb] at hb IB
  have K_0 := Lib.hid (show Cb pa 24 ca w.drew ∧ Cb pb 24 cb w.drew from ⟨ha.below (below_drew _), hb.below (below_drew _)⟩)
  have B_0 := Lib.hid (show Below w.heap.size w w.drew from below_drew w)
  clear ha hb hca hcb hr1 hr2
  go_enter Try.func20, Try.ntmps20
  go_upto_region 1 with fail
  refine h_start (S := fun W => Cb pa 24 ca W ∧ Cb pb 24 cb W) (by kernel_rfl) ?_
  refine h_val (i := 0) (v := .agg cb) rfl (by kernel_rfl) (by kernel_rfl) (by kernel_rfl) (fun _ _ _ h => h) (by rfl) (fun wz hS => ?_) K_0.out ?_
  · exact x_load 24 (.tmp 1) rfl pb rfl _ _ _ _ hS.2 Try.underlying24 rfl IB.out
  go_frame
  refine h_val (i := 1) (v := .agg ca) rfl (by kernel_rfl) (by kernel_rfl) (by kernel_rfl) (fun _ _ _ h => h) (by rfl) (fun wz hS => ?_) K_0.out ?_
  · exact x_load 24 (.tmp 2) rfl pa rfl _ _ _ _ hS.1 Try.underlying24 rfl IA.out
  go_frame
  refine h_val (i := 2) (v := .int .i64 id) rfl (by kernel_rfl) (by kernel_rfl) (by kernel_rfl) (fun _ _ _ h => h) (by rfl) (fun wz hS => ?_) K_0.out ?_
  · go_simp
  go_frame
  refine h_all1 (i := 3) (by kernel_rfl) ?_
  refine o_call (f := 14) (args := #[.agg ca, .int .i64 id]) rfl (by rfl) (by go_simp) ?_
  refine (HA.out _).mono ?_
  rintro e w1 ⟨rfl, b1⟩
  have K_1 := Lib.hid (And.intro (K_0.out.1.below b1) (K_0.out.2.below b1))
  have B_1 := Lib.hid (below_add B_0.out b1 B_0.out.size)
  clear b1
  refine ⟨_, rfl, K_1.out, ?_⟩
  go_frame
  refine h_all1 (i := 4) (by kernel_rfl) ?_
  refine o_call (f := 14) (args := #[.agg cb, .int .i64 r1]) rfl (by rfl) (by go_simp) ?_
  refine (HB.out _).mono ?_
  rintro e w2 ⟨rfl, b2⟩
  have K_2 := Lib.hid (And.intro (K_1.out.1.below b2) (K_1.out.2.below b2))
  have B_2 := Lib.hid (below_add B_1.out b2 B_1.out.size)
  clear b2
  refine ⟨_, rfl, K_2.out, ?_⟩
  go_frame
  refine h_all1 (i := 5) (by kernel_rfl) ?_
  refine o_step rfl (by rfl) ?_
  refine wp_val (v := .int .i64 r2) (by go_simp) ?_
  refine ⟨K_2.out, ?_⟩
  go_frame
  refine h_done (by kernel_rfl) ?_
  go_wp2
  go_ret
  exact ⟨rfl, B_2.out⟩
theorem askB_any (oa ob : OpV) (pa pb : Nat) (id : Int) (w : World) (ha : Cb pa 24 (opcs oa) w) (hb : Cb pb 24 (opcs ob) w) : Calls Try.prog 34 #[.func (.func 20) #[] #[.pointer (some ⟨pb, 0, none⟩), .pointer (some ⟨pa, 0, none⟩)], .int .i64 id] w fun e w' => e = .returned (.int .i64 (mapF ob.b ob.p (mapF oa.b oa.p id))) ∧ Below w.heap.size w w' := by
  have hmf : ∀ (fn : Fn) (first cap : Array Value) (w : World), (Instr.makeFunc fn first cap).run Try.prog w = .ok (.func fn first cap) w := fun _ _ _ _ => rfl
  have eg : ∀ args w, (callFunc 20 args).run Try.prog w = .ok (.enter 20 args) w := enters_of Try.func20 (by kernel_rfl) rfl
  have HM := Lib.hid (fun w' (hw : Below w.heap.size w w') => both_any oa ob pa pb id w' (ha.below hw) (hb.below hw))
  obtain ⟨r, hr⟩ : ∃ r, mapF ob.b ob.p (mapF oa.b oa.p id) = r := ⟨_, rfl⟩
  rw [hr] at HM
  rw [hr]
  clear hr ha hb
  have hbb := (Below.refl w.heap.size w).alloc (Nat.le_refl _) (.cells #[.int .i64 0] 3)
  have HC := Lib.hid (cb_new w 3 #[.int .i64 0])
  have HB := Lib.hid hbb
  clear hbb
  go_enter_defers Try.func34, Try.ntmps34
  go_wp2_with (go_at_call 20; refine (HM.out _ HB.out).mono ?_; rintro e w1 ⟨rfl, bb⟩; have C1 := Lib.hid (HC.out.below bb); have B1 := Lib.hid (below_add HB.out bb HB.out.size); have c1 := (HC.out.below bb).cell 0; have f1 := (HC.out.below bb).frozen 0; clear bb)
  refine leaves_cons (f := 52) (args := #[.pointer (some ⟨w.heap.size, 0, none⟩)]) (by simp) (by simp [go_sem]) ?_
  refine (idle_any ⟨w.heap.size, 0, none⟩ _).mono ?_
  rintro e u' w'' ⟨rfl, rfl, rfl⟩
  have c2 : Cb w.heap.size 3 #[.int .i64 r] (w1.setCell ⟨w.heap.size, 0, none⟩ (.int .i64 r)) := heap_set _ C1.out
  have c3 : _ = some (Value.int .i64 r) := c2.cell 0
  have b3 : Below w.heap.size w (w1.setCell ⟨w.heap.size, 0, none⟩ (.int .i64 r)) := B1.out.trans ((Off.of_grown (S := fun k => k = w.heap.size) (grown_set (w := w1) (g := w.heap.size) (o := 0) (.int .i64 r)) (fun g hg => by cases hg; rfl)).below (fun k hk => Nat.le_of_eq hk.symm) B1.out.size)
  simp [Leaves, settle, results, Try.results34, go_sem, c3]
  exact b3
end Go.Proofs.Ytoppgdhidnpibaa
