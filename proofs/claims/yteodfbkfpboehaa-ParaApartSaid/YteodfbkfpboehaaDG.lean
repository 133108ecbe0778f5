
import Derived.Test.YteodfbkfpboehaaDF
/- DG: a fork or a leaf; sizes; the three ways of runs; a leaf's thing -/
namespace Go.Proofs.Yteodfbkfpboehaa
open Go.RowKit
set_option linter.unusedVariables false
set_option maxRecDepth 100000

/-! ### a region that draws its order: whatever may come up -/
section
variable {P : Program} {l : List Oper} {Q : Exit → Act → World → Prop} {md : Region.Mode} {S : World → Prop} {fuel : Nat} {listed : Array Bool} {a : Act} {w : World}
theorem h_all1 {i : Nat} (hr : Region.ready md l.toArray listed = [i])
    (h1 : wpOp P l.toArray Q i (fun a' w' => S w' ∧ wpAnyH P md l.toArray Q S fuel (listed.setIfInBounds i true) a' w') a w) : wpAnyH P md l.toArray Q S (fuel + 1) listed a w :=
  wpAnyH_all hr (by simp) fun x hx => by simp at hx; subst hx; exact h1
theorem h_all2 {i j : Nat} (hr : Region.ready md l.toArray listed = [i, j])
    (h1 : wpOp P l.toArray Q i (fun a' w' => S w' ∧ wpAnyH P md l.toArray Q S fuel (listed.setIfInBounds i true) a' w') a w)
    (h2 : wpOp P l.toArray Q j (fun a' w' => S w' ∧ wpAnyH P md l.toArray Q S fuel (listed.setIfInBounds j true) a' w') a w) : wpAnyH P md l.toArray Q S (fuel + 1) listed a w :=
  wpAnyH_all hr (by simp) fun x hx => by
    simp at hx
    rcases hx with rfl | rfl
    · exact h1
    · exact h2
theorem h_all3 {i j k : Nat} (hr : Region.ready md l.toArray listed = [i, j, k])
    (h1 : wpOp P l.toArray Q i (fun a' w' => S w' ∧ wpAnyH P md l.toArray Q S fuel (listed.setIfInBounds i true) a' w') a w)
    (h2 : wpOp P l.toArray Q j (fun a' w' => S w' ∧ wpAnyH P md l.toArray Q S fuel (listed.setIfInBounds j true) a' w') a w)
    (h3 : wpOp P l.toArray Q k (fun a' w' => S w' ∧ wpAnyH P md l.toArray Q S fuel (listed.setIfInBounds k true) a' w') a w) : wpAnyH P md l.toArray Q S (fuel + 1) listed a w :=
  wpAnyH_all hr (by simp) fun x hx => by
    simp at hx
    rcases hx with rfl | rfl | rfl
    · exact h1
    · exact h2
    · exact h3
/-- A call. -/
theorem o_call {R : Act → World → Prop} {i : Nat} {oi : Oper} {f : FuncId} {args : Array Value} (hi : l[i]? = some oi) (hw : Region.wanted oi (yielded l.toArray a.tmps) = true)
    (hv : (execOp a.eval oi).run P w = .ok (.enter f args) w)
    (hc : Calls P f args w fun e w' => ∃ v, e = .returned v ∧ R (a.put oi.dst v) w') : wpOp P l.toArray Q i R a w := by
  have hi2 : l.toArray[i]? = some oi := by simpa using hi
  unfold wpOp
  simp only [hi2, hw, if_true]
  left
  unfold Oper.wp
  rw [hv]
  simp only [Oper.upon]
  refine hc.mono fun e w' ⟨v, he, h1⟩ => ?_
  subst he
  exact h1
/-- An operation by a law of its own. -/
theorem o_step {R : Act → World → Prop} {i : Nat} {oi : Oper} (hi : l[i]? = some oi) (hw : Region.wanted oi (yielded l.toArray a.tmps) = true)
    (h : oi.wp P a w R Q) : wpOp P l.toArray Q i R a w := by
  have hi2 : l.toArray[i]? = some oi := by simpa using hi
  unfold wpOp
  simp only [hi2, hw, if_true]
  left
  exact h
end
theorem wp_alloc_row {P : Program} {op : Oper} {a : Act} {w : World} {K : Act → World → Prop} {Q : Exit → Act → World → Prop} (ty : TypeId) (ho : op.op = .alloc ty) (zc : Array Value)
    (hi : (P.info? ty).bind (·.zero) = some (.agg zc)) (h : K (a.put op.dst (.pointer (some ⟨w.heap.size, 0, none⟩))) (w.alloc (.cells zc ty))) : op.wp P a w K Q := by
  have hrun : (execOp a.eval op).run P w = .ok (.value (.pointer (some ⟨w.heap.size, 0, none⟩))) (w.alloc (.cells zc ty)) := by
    cases hq : P.info? ty with
    | none => simp [hq] at hi
    | some i =>
      simp [hq] at hi
      simp [execOp, ho, Instr.alloc, zeroValue, typeInfo, hq, hi, newVar, newRow, Value.cells]
  unfold Oper.wp
  rw [hrun]
  exact h
theorem xzero : (Try.prog.info? 61).bind (·.zero) = some (.agg czr) := by kernel_rfl
theorem zzero : (Try.prog.info? 74).bind (·.zero) = some (.agg #[.int .i64 0, .int .i64 0]) := by kernel_rfl
theorem zinfo (a b : Value) : (Try.prog.info? 74).map (·.size) = some (#[a, b] : Array Value).size := by show _ = some 2; kernel_rfl
theorem zone2 (a b : Int) : (#[.int .i64 a, .int .i64 b] : Array Value).all (·.oneCell') = true := by simp [Value.oneCell']
theorem zoneD (a : Int) (d : Sv) : (#[.int .i64 a, d.v] : Array Value).all (·.oneCell') = true := by simp [Value.oneCell']
theorem xinfo {cs : Array Value} (h : cs.size = 2) : (Try.prog.info? 61).map (·.size) = some cs.size := by rw [h]; kernel_rfl

theorem cb3_midy (w : World) (cx cy : Array Value) : Cb (w.heap.size + 1) 61 cy (((w.alloc (.cells cx 61)).alloc (.cells cy 61)).alloc (.cells czr 61)) := by
  have := (cb_new (w.alloc (.cells cx 61)) 61 cy).alloc (.cells czr 61)
  rwa [World.size_alloc] at this
theorem cb3_lasty (w : World) (cx cy : Array Value) : Cb (w.heap.size + 2) 61 czr (((w.alloc (.cells cx 61)).alloc (.cells cy 61)).alloc (.cells czr 61)) := by
  have := cb_new ((w.alloc (.cells cx 61)).alloc (.cells cy 61)) 61 czr
  rwa [World.size_alloc, World.size_alloc] at this
theorem isfork_any (N : Nd) (w : World) : Calls Try.prog 57 #[ndv N] w fun e w' => e = .returned (.bool (decide (1 < N.height))) ∧ Below w.heap.size w w' := by
  have hb := (Below.refl w.heap.size w).alloc (Nat.le_refl _) (.cells (ndc N) 102)
  obtain ⟨d, hd⟩ : ∃ d, decide (1 < N.height) = d := ⟨_, rfl⟩
  rw [hd]
  have HB := Lib.hid hb
  clear hb
  cases d <;>
  (go_enter Try.func57, Try.ntmps57
   go_wp2
   go_ret
   exact ⟨rfl, HB.out⟩)
theorem plus_any (a b c d : Nat) (h1 : a + c ≤ 10000000000) (h2 : b + d ≤ 10000000000) (w : World) : Calls Try.prog 58 #[.agg #[.int .i64 (a : Nat), .int .i64 (b : Nat)], .agg #[.int .i64 (c : Nat), .int .i64 (d : Nat)]] w fun e w' =>
    e = .returned (.agg #[.int .i64 (a + c : Nat), .int .i64 (b + d : Nat)]) ∧ Below w.heap.size w w' := by
  have e1 : ((a + c : Nat) : Int) = (a : Int) + (c : Int) := by omega
  have e2 : ((b + d : Nat) : Int) = (b : Int) + (d : Int) := by omega
  rw [e1, e2]
  have u1 : (a : Int) + (c : Int) ≤ 10000000000 := by omega
  have u2 : (b : Int) + (d : Int) ≤ 10000000000 := by omega
  have l1 : 0 ≤ (a : Int) + (c : Int) := by omega
  have l2 : 0 ≤ (b : Int) + (d : Int) := by omega
  clear e1 e2 h1 h2
  go_enter Try.func58, Try.ntmps58
  go_wp2
  have hb := (((Below.refl w.heap.size w).alloc (Nat.le_refl _) (.cells #[.int .i64 (a : Nat), .int .i64 (b : Nat)] 74)).alloc (by simp) (.cells #[.int .i64 (c : Nat), .int .i64 (d : Nat)] 74)).alloc (by simp; omega) (.cells #[.int .i64 ((a : Int) + (c : Int)), .int .i64 ((b : Int) + (d : Int))] 74)
  have hf := heap_alloc_new ((w.alloc (.cells #[.int .i64 (a : Nat), .int .i64 (b : Nat)] 74)).alloc (.cells #[.int .i64 (c : Nat), .int .i64 (d : Nat)] 74)) (.cells #[.int .i64 ((a : Int) + (c : Int)), .int .i64 ((b : Int) + (d : Int))] 74)
  simp only [World.size_alloc] at hf
  exact bodyPost_ret (results_cell_row Try.results58 _ _ _ _ _ _ _ rfl hf Try.underlying74 rfl (zinfo _ _)) rfl ⟨rfl, hb⟩
theorem cb3_mid (w : World) (cx : Array Value) : Cb (w.heap.size + 1) 61 czr (((w.alloc (.cells cx 61)).alloc (.cells czr 61)).alloc (.cells czr 61)) := by
  have := (cb_new (w.alloc (.cells cx 61)) 61 czr).alloc (.cells czr 61)
  rwa [World.size_alloc] at this
theorem cb3_last (w : World) (cx : Array Value) : Cb (w.heap.size + 2) 61 czr (((w.alloc (.cells cx 61)).alloc (.cells czr 61)).alloc (.cells czr 61)) := by
  have := cb_new ((w.alloc (.cells cx 61)).alloc (.cells czr 61)) 61 czr
  rwa [World.size_alloc, World.size_alloc] at this
theorem results_two_x {fn : Func} {W : World} {a b : Nat} {p q : Tmp} {xs ys : Array Value} (hr : fn.results = #[.cell p 61, .cell q 61]) (hx : xs.size = 2) (hy : ys.size = 2) (ha : Cb a 61 xs W) (hb : Cb b 61 ys W) (tm : Array Value) (h4 : tm.getD p undef = .pointer (some ⟨a, 0, none⟩)) (h5 : tm.getD q undef = .pointer (some ⟨b, 0, none⟩)) :
    (results fn tm).run Try.prog W = .ok (.tuple #[.agg xs, .agg ys]) W := by
  have r4 := run_loadVar_row (P := Try.prog) W a _ 61 xs _ _ ha Try.underlying61 rfl (xinfo hx)
  have r5 := run_loadVar_row (P := Try.prog) W b _ 61 ys _ _ hb Try.underlying61 rfl (xinfo hy)
  have h4' : tm[p]?.getD undef = .pointer (some ⟨a, 0, none⟩) := by simpa using h4
  have h5' : tm[q]?.getD undef = .pointer (some ⟨b, 0, none⟩) := by simpa using h5
  simp [results, hr, h4', h5', asAddr, r4, r5]
theorem results_x_tmp {fn : Func} {W : World} {a : Nat} {p q : Tmp} {xs : Array Value} {v : Value} (hr : fn.results = #[.cell p 61, .tmp q]) (hx : xs.size = 2) (ha : Cb a 61 xs W) (tm : Array Value) (h4 : tm.getD p undef = .pointer (some ⟨a, 0, none⟩)) (h5 : tm.getD q undef = v) :
    (results fn tm).run Try.prog W = .ok (.tuple #[.agg xs, v]) W := by
  have r4 := run_loadVar_row (P := Try.prog) W a _ 61 xs _ _ ha Try.underlying61 rfl (xinfo hx)
  have h4' : tm[p]?.getD undef = .pointer (some ⟨a, 0, none⟩) := by simpa using h4
  have h5' : tm[q]?.getD undef = v := by simpa using h5
  simp [results, hr, h4', h5', asAddr, r4]
theorem xone (x : Ck) : (krow x).all (·.oneCell') = true := krow_one x
theorem mea_any (x : Ck) (w : World) : Calls Try.prog 54 #[cvs x] w fun e w' => e = .returned (.agg #[.int .i64 (x.n : Nat), .int .i64 ((0 : Nat) : Int)]) ∧ Below w.heap.size w w' := by
  obtain ⟨n, d⟩ := x
  unfold cvs krow
  have e1 : ((0 : Nat) : Int) = 0 := rfl
  rw [e1]
  go_enter Try.func54, Try.ntmps54
  go_wp2
  have hb := (((Below.refl w.heap.size w).alloc (Nat.le_refl _) (.cells #[.int .i64 (n : Nat), d.v] 61)).alloc (by simp) (.cells #[.int .i64 (n : Nat), .int .i64 0] 74))
  have hf := heap_alloc_new (w.alloc (.cells #[.int .i64 (n : Nat), d.v] 61)) (.cells #[.int .i64 (n : Nat), .int .i64 0] 74)
  simp only [World.size_alloc] at hf
  exact bodyPost_ret (results_cell_row Try.results54 _ _ _ _ _ _ _ rfl hf Try.underlying74 rfl (zinfo _ _)) rfl ⟨rfl, hb⟩

def cutA (x : Ck) (k : Nat) : Ck := ⟨k, x.d⟩
def cutB (x : Ck) (k : Nat) : Ck := ⟨x.n - k, x.d⟩
theorem cutw_any (x : Ck) (i : Nat) (hi : i ≤ x.n) (hb : x.n ≤ 10000000000) (w : World) : Calls Try.prog 55 #[cvs x, .int .i64 (i : Nat)] w fun e w' => e = .returned (.tuple #[cvs (cutA x i), cvs (cutB x i)]) ∧ Below w.heap.size w w' := by
  obtain ⟨n, d⟩ := x
  unfold cvs krow cutA cutB
  have hi : i ≤ n := hi
  have hb : n ≤ 10000000000 := hb
  have ws : IntKind.i64.wrap ((n : Int) - (i : Int)) = ((n - i : Nat) : Int) := by rw [IntKind.wrap_i64] <;> omega
  clear hi hb
  go_enter Try.func55, Try.ntmps55
  go_upto_region 1 with fail
  refine with_worldT (fun W => Cb w.heap.size 61 #[.int .i64 (n : Nat), d.v] W ∧ Cb (w.heap.size + 1) 61 czr W ∧ Cb (w.heap.size + 2) 61 czr W ∧ Below w.heap.size w W) ⟨((cb_new w _ _).alloc _).alloc _, cb3_mid w _, cb3_last w _, ((((Below.refl _ w).alloc (Nat.le_refl _) _).alloc (by simp) _).alloc (by simp; omega) _)⟩ fun W0 hW0 => ?_
  have K_0 := Lib.hid (hW0.1.below (below_drew _))
  have R_0 := Lib.hid (And.intro (hW0.2.1.below (below_drew _)) (hW0.2.2.1.below (below_drew _)))
  have B_0 := Lib.hid hW0.2.2.2.drew
  clear hW0
  refine h_start (S := fun W => Cb w.heap.size 61 #[.int .i64 (n : Nat), d.v] W) (by kernel_rfl) ?_
  refine h_val (i := 0) (v := .int .i64 (i : Nat)) rfl (by kernel_rfl) (by kernel_rfl) (by kernel_rfl) (fun _ _ _ h => h) (by rfl) (fun wz hS => ?_) K_0.out ?_
  · skip
    go_simp
  go_frame
  refine h_val (i := 1) (v := .pointer (some ⟨w.heap.size, 1, none⟩)) rfl (by kernel_rfl) (by kernel_rfl) (by kernel_rfl) (fun _ _ _ h => h) (by rfl) (fun wz hS => ?_) K_0.out ?_
  · skip
    go_simp
  go_frame
  refine h_val (i := 2) (v := d.v) rfl (by kernel_rfl) (by kernel_rfl) (by kernel_rfl) (fun _ _ _ h => h) (by rfl) (fun wz hS => ?_) K_0.out ?_
  · skip
    have q1 : wz.cell? ⟨w.heap.size, 1, none⟩ = some (d.v) := hS.cell 1
    go_simp
  go_frame
  refine h_val (i := 3) (v := .agg #[.int .i64 (i : Nat), d.v]) rfl (by kernel_rfl) (by kernel_rfl) (by kernel_rfl) (fun _ _ _ h => h) (by rfl) (fun wz hS => ?_) K_0.out ?_
  · skip
    go_simp
  go_frame
  refine h_val (i := 4) (v := .pointer (some ⟨w.heap.size, 0, none⟩)) rfl (by kernel_rfl) (by kernel_rfl) (by kernel_rfl) (fun _ _ _ h => h) (by rfl) (fun wz hS => ?_) K_0.out ?_
  · skip
    go_simp
  go_frame
  refine h_val (i := 5) (v := .int .i64 (n : Nat)) rfl (by kernel_rfl) (by kernel_rfl) (by kernel_rfl) (fun _ _ _ h => h) (by rfl) (fun wz hS => ?_) K_0.out ?_
  · skip
    have q0 : wz.cell? ⟨w.heap.size, 0, none⟩ = some (.int .i64 (n : Nat)) := hS.cell 0
    go_simp
  go_frame
  refine h_val (i := 6) (v := .int .i64 (i : Nat)) rfl (by kernel_rfl) (by kernel_rfl) (by kernel_rfl) (fun _ _ _ h => h) (by rfl) (fun wz hS => ?_) K_0.out ?_
  · skip
    go_simp
  go_frame
  refine h_val (i := 7) (v := .int .i64 ((n - i : Nat) : Int)) rfl (by kernel_rfl) (by kernel_rfl) (by kernel_rfl) (fun _ _ _ h => h) (by rfl) (fun wz hS => ?_) K_0.out ?_
  · skip
    go_simp
  go_frame
  refine h_val (i := 8) (v := .pointer (some ⟨w.heap.size, 1, none⟩)) rfl (by kernel_rfl) (by kernel_rfl) (by kernel_rfl) (fun _ _ _ h => h) (by rfl) (fun wz hS => ?_) K_0.out ?_
  · skip
    go_simp
  go_frame
  refine h_val (i := 9) (v := d.v) rfl (by kernel_rfl) (by kernel_rfl) (by kernel_rfl) (fun _ _ _ h => h) (by rfl) (fun wz hS => ?_) K_0.out ?_
  · skip
    have q1 : wz.cell? ⟨w.heap.size, 1, none⟩ = some (d.v) := hS.cell 1
    go_simp
  go_frame
  refine h_val (i := 10) (v := .agg #[.int .i64 ((n - i : Nat) : Int), d.v]) rfl (by kernel_rfl) (by kernel_rfl) (by kernel_rfl) (fun _ _ _ h => h) (by rfl) (fun wz hS => ?_) K_0.out ?_
  · skip
    go_simp
  go_frame
  refine h_all1 (i := 11) (by kernel_rfl) ?_
  refine o_step rfl (by rfl) ?_
  refine wp_store_row 61 (.tmp 4) (.tmp 9) rfl (w.heap.size + 1) #[.int .i64 (i : Nat), d.v] rfl rfl _ _ R_0.out.1 (xinfo rfl) rfl (zoneD _ _) ?_
  have K_1 := Lib.hid (K_0.out.other (c := w.heap.size + 1) (by omega) #[.int .i64 (i : Nat), d.v])
  have R_1 := Lib.hid (And.intro (R_0.out.1.set #[.int .i64 (i : Nat), d.v]) (R_0.out.2.other (c := w.heap.size + 1) (by omega) #[.int .i64 (i : Nat), d.v]))
  have B_1 := Lib.hid (below_row (cs := #[.int .i64 (i : Nat), d.v]) B_0.out (show w.heap.size ≤ w.heap.size + 1 by omega))
  refine ⟨K_1.out, ?_⟩
  go_frame
  refine h_all1 (i := 12) (by kernel_rfl) ?_
  refine o_step rfl (by rfl) ?_
  refine wp_store_row 61 (.tmp 5) (.tmp 16) rfl (w.heap.size + 2) #[.int .i64 ((n - i : Nat) : Int), d.v] rfl rfl _ _ R_1.out.2 (xinfo rfl) rfl (zoneD _ _) ?_
  have K_2 := Lib.hid (K_1.out.other (c := w.heap.size + 2) (by omega) #[.int .i64 ((n - i : Nat) : Int), d.v])
  have R_2 := Lib.hid (And.intro (R_1.out.1.other (c := w.heap.size + 2) (by omega) #[.int .i64 ((n - i : Nat) : Int), d.v]) (R_1.out.2.set #[.int .i64 ((n - i : Nat) : Int), d.v]))
  have B_2 := Lib.hid (below_row (cs := #[.int .i64 ((n - i : Nat) : Int), d.v]) B_1.out (show w.heap.size ≤ w.heap.size + 2 by omega))
  refine ⟨K_2.out, ?_⟩
  go_frame
  refine h_done (by kernel_rfl) ?_
  go_wp2
  exact bodyPost_ret (results_two_x Try.results55 rfl rfl R_2.out.1 R_2.out.2 _ rfl rfl) rfl ⟨rfl, B_2.out⟩

def melK (x y : Ck) : Ck := ⟨x.n + y.n, x.d⟩
def melB (x y : Ck) : Bool := decide (x.d.s = y.d.s)
theorem cb3_midz (w : World) (cx cy : Array Value) : Cb (w.heap.size + 1) 61 cy (((w.alloc (.cells cx 61)).alloc (.cells cy 61)).alloc (.cells czr 61)) := cb3_midy w cx cy
theorem meld_any (x y : Ck) (hb : x.n + y.n ≤ 10000000000) (w : World) (hx : Arow w x.d.v x.d.s) (hy : Arow w y.d.v y.d.s) : Calls Try.prog 56 #[cvs x, cvs y] w fun e w' => e = .returned (.tuple #[cvs (melK x y), .bool (melB x y)]) ∧ Below w.heap.size w w' := by
  obtain ⟨n, d⟩ := x
  obtain ⟨m, g⟩ := y
  have HA := Lib.hid hx
  have HG := Lib.hid hy
  clear hx hy
  unfold cvs krow melK melB
  have hb : n + m ≤ 10000000000 := hb
  have ws : IntKind.i64.wrap ((n : Int) + (m : Int)) = ((n + m : Nat) : Int) := by rw [IntKind.wrap_i64] <;> omega
  clear hb
  go_enter Try.func56, Try.ntmps56
  go_upto_region 1 with fail
  refine with_worldT (fun W => Cb w.heap.size 61 #[.int .i64 (n : Nat), d.v] W ∧ Cb (w.heap.size + 1) 61 #[.int .i64 (m : Nat), g.v] W ∧ Cb (w.heap.size + 2) 61 czr W ∧ Below w.heap.size w W) ⟨((cb_new w _ _).alloc _).alloc _, cb3_midy w _ _, cb3_lasty w _ _, ((((Below.refl _ w).alloc (Nat.le_refl _) _).alloc (by simp) _).alloc (by simp; omega) _)⟩ fun W0 hW0 => ?_
  have K_0 := Lib.hid (And.intro (hW0.1.below (below_drew _)) (hW0.2.1.below (below_drew _)))
  have R_0 := Lib.hid (hW0.2.2.1.below (below_drew _))
  have B_0 := Lib.hid hW0.2.2.2.drew
  clear hW0
  refine h_start (S := fun W => Cb w.heap.size 61 #[.int .i64 (n : Nat), d.v] W ∧ Cb (w.heap.size + 1) 61 #[.int .i64 (m : Nat), g.v] W) (by kernel_rfl) ?_
  refine h_val (i := 0) (v := .pointer (some ⟨w.heap.size, 0, none⟩)) rfl (by kernel_rfl) (by kernel_rfl) (by kernel_rfl) (fun _ _ _ h => h) (by rfl) (fun wz hS => ?_) K_0.out ?_
  · skip
    go_simp
  go_frame
  refine h_val (i := 1) (v := .int .i64 (n : Nat)) rfl (by kernel_rfl) (by kernel_rfl) (by kernel_rfl) (fun _ _ _ h => h) (by rfl) (fun wz hS => ?_) K_0.out ?_
  · skip
    have q0 : wz.cell? ⟨w.heap.size, 0, none⟩ = some (.int .i64 (n : Nat)) := hS.1.cell 0
    go_simp
  go_frame
  refine h_val (i := 2) (v := .pointer (some ⟨w.heap.size + 1, 0, none⟩)) rfl (by kernel_rfl) (by kernel_rfl) (by kernel_rfl) (fun _ _ _ h => h) (by rfl) (fun wz hS => ?_) K_0.out ?_
  · skip
    go_simp
  go_frame
  refine h_val (i := 3) (v := .int .i64 (m : Nat)) rfl (by kernel_rfl) (by kernel_rfl) (by kernel_rfl) (fun _ _ _ h => h) (by rfl) (fun wz hS => ?_) K_0.out ?_
  · skip
    have q0 : wz.cell? ⟨w.heap.size + 1, 0, none⟩ = some (.int .i64 (m : Nat)) := hS.2.cell 0
    go_simp
  go_frame
  refine h_val (i := 4) (v := .int .i64 ((n + m : Nat) : Int)) rfl (by kernel_rfl) (by kernel_rfl) (by kernel_rfl) (fun _ _ _ h => h) (by rfl) (fun wz hS => ?_) K_0.out ?_
  · skip
    go_simp
  go_frame
  refine h_val (i := 5) (v := .pointer (some ⟨w.heap.size, 1, none⟩)) rfl (by kernel_rfl) (by kernel_rfl) (by kernel_rfl) (fun _ _ _ h => h) (by rfl) (fun wz hS => ?_) K_0.out ?_
  · skip
    go_simp
  go_frame
  refine h_val (i := 6) (v := d.v) rfl (by kernel_rfl) (by kernel_rfl) (by kernel_rfl) (fun _ _ _ h => h) (by rfl) (fun wz hS => ?_) K_0.out ?_
  · skip
    have q1 : wz.cell? ⟨w.heap.size, 1, none⟩ = some (d.v) := hS.1.cell 1
    go_simp
  go_frame
  refine h_val (i := 7) (v := .agg #[.int .i64 ((n + m : Nat) : Int), d.v]) rfl (by kernel_rfl) (by kernel_rfl) (by kernel_rfl) (fun _ _ _ h => h) (by rfl) (fun wz hS => ?_) K_0.out ?_
  · skip
    go_simp
  go_frame
  refine h_val (i := 8) (v := .pointer (some ⟨w.heap.size, 1, none⟩)) rfl (by kernel_rfl) (by kernel_rfl) (by kernel_rfl) (fun _ _ _ h => h) (by rfl) (fun wz hS => ?_) K_0.out ?_
  · skip
    go_simp
  go_frame
  refine h_val (i := 9) (v := d.v) rfl (by kernel_rfl) (by kernel_rfl) (by kernel_rfl) (fun _ _ _ h => h) (by rfl) (fun wz hS => ?_) K_0.out ?_
  · skip
    have q1 : wz.cell? ⟨w.heap.size, 1, none⟩ = some (d.v) := hS.1.cell 1
    go_simp
  go_frame
  refine h_val (i := 10) (v := .pointer (some ⟨w.heap.size + 1, 1, none⟩)) rfl (by kernel_rfl) (by kernel_rfl) (by kernel_rfl) (fun _ _ _ h => h) (by rfl) (fun wz hS => ?_) K_0.out ?_
  · skip
    go_simp
  go_frame
  refine h_val (i := 11) (v := g.v) rfl (by kernel_rfl) (by kernel_rfl) (by kernel_rfl) (fun _ _ _ h => h) (by rfl) (fun wz hS => ?_) K_0.out ?_
  · skip
    have q1 : wz.cell? ⟨w.heap.size + 1, 1, none⟩ = some (g.v) := hS.2.cell 1
    go_simp
  go_frame
  refine h_all1 (i := 12) (by kernel_rfl) ?_
  refine o_call (f := 47) (args := #[d.v, g.v]) rfl (by rfl) (by go_simp) ?_
  refine (same_any5 _ _ _ _ _ (HA.out.below B_0.out (Nat.le_refl _)) (HG.out.below B_0.out (Nat.le_refl _))).mono ?_
  rintro e w1 ⟨rfl, b1⟩
  have K_1 := Lib.hid (And.intro (K_0.out.1.below b1) (K_0.out.2.below b1))
  have R_1 := Lib.hid (R_0.out.below b1)
  have B_1 := Lib.hid (below_add B_0.out b1 B_0.out.size)
  clear b1
  refine ⟨_, rfl, K_1.out, ?_⟩
  go_frame
  refine h_all1 (i := 13) (by kernel_rfl) ?_
  refine o_step rfl (by rfl) ?_
  refine wp_store_row 61 (.tmp 4) (.tmp 13) rfl (w.heap.size + 2) #[.int .i64 ((n + m : Nat) : Int), d.v] rfl rfl _ _ R_1.out (xinfo rfl) rfl (zoneD _ _) ?_
  have K_2 := Lib.hid (And.intro (K_1.out.1.other (c := w.heap.size + 2) (by omega) #[.int .i64 ((n + m : Nat) : Int), d.v]) (K_1.out.2.other (c := w.heap.size + 2) (by omega) #[.int .i64 ((n + m : Nat) : Int), d.v]))
  have R_2 := Lib.hid (R_1.out.set #[.int .i64 ((n + m : Nat) : Int), d.v])
  have B_2 := Lib.hid (below_row (cs := #[.int .i64 ((n + m : Nat) : Int), d.v]) B_1.out (show w.heap.size ≤ w.heap.size + 2 by omega))
  refine ⟨K_2.out, ?_⟩
  go_frame
  refine h_val (i := 14) (v := .bool (decide (d.s = g.s))) rfl (by kernel_rfl) (by kernel_rfl) (by kernel_rfl) (fun _ _ _ h => h) (by rfl) (fun wz hS => ?_) K_2.out ?_
  · skip
    go_simp
  go_frame
  refine h_done (by kernel_rfl) ?_
  go_wp2
  exact bodyPost_ret (results_x_tmp Try.results56 rfl R_2.out _ rfl rfl) rfl ⟨rfl, B_2.out⟩
end Go.Proofs.Yteodfbkfpboehaa
