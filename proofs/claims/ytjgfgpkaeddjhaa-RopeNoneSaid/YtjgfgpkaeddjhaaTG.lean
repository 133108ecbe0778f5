
import Derived.Test.YtjgfgpkaeddjhaaTF
/- TG: a fork or a leaf; sizes; the three ways of chunks; a leaf's thing -/
namespace Go.Proofs.Ytjgfgpkaeddjhaa
open Go.RowKit
set_option linter.unusedVariables false
set_option maxRecDepth 100000

/-! ### a region that draws its order: whatever may come up -/
section
variable {P : Program} {l : List Oper} {Q : Exit → Act → World → Prop} {md : Region.Mode} {S : World → Prop} {fuel : Nat} {listed : Array Bool} {a : Act} {w : World}
theorem h_all1 {i : Nat} (hr : Region.ready md l.toArray listed = [i])
    (h1 : wpOp P l.toArray Q i (fun a' w' => S w' ∧ wpAnyH P md l.toArray Q S fuel (listed.setIfInBounds i true) a' w') a w) : wpAnyH P md l.toArray Q S (fuel + 1) listed a w :=
  wpAnyH_all hr (by simp) fun x hx => by simp at hx; subst hx; exact h1
theorem h_all2 {i j : Nat} (hr : Region.ready md l.toArray listed = [i, j])
    (h1 : wpOp P l.toArray Q i (fun a' w' => S w' ∧ wpAnyH P md l.toArray Q S fuel (listed.setIfInBounds i true) a' w') a w)
    (h2 : wpOp P l.toArray Q j (fun a' w' => S w' ∧ wpAnyH P md l.toArray Q S fuel (listed.setIfInBounds j true) a' w') a w) : wpAnyH P md l.toArray Q S (fuel + 1) listed a w :=
  wpAnyH_all hr (by simp) fun x hx => by
    simp at hx
    rcases hx with rfl | rfl
    · exact h1
    · exact h2
theorem h_all3 {i j k : Nat} (hr : Region.ready md l.toArray listed = [i, j, k])
    (h1 : wpOp P l.toArray Q i (fun a' w' => S w' ∧ wpAnyH P md l.toArray Q S fuel (listed.setIfInBounds i true) a' w') a w)
    (h2 : wpOp P l.toArray Q j (fun a' w' => S w' ∧ wpAnyH P md l.toArray Q S fuel (listed.setIfInBounds j true) a' w') a w)
    (h3 : wpOp P l.toArray Q k (fun a' w' => S w' ∧ wpAnyH P md l.toArray Q S fuel (listed.setIfInBounds k true) a' w') a w) : wpAnyH P md l.toArray Q S (fuel + 1) listed a w :=
  wpAnyH_all hr (by simp) fun x hx => by
    simp at hx
    rcases hx with rfl | rfl | rfl
    · exact h1
    · exact h2
    · exact h3
/-- A call. -/
theorem o_call {R : Act → World → Prop} {i : Nat} {oi : Oper} {f : FuncId} {args : Array Value} (hi : l[i]? = some oi) (hw : Region.wanted oi (yielded l.toArray a.tmps) = true)
    (hv : (execOp a.eval oi).run P w = .ok (.enter f args) w)
    (hc : Calls P f args w fun e w' => ∃ v, e = .returned v ∧ R (a.put oi.dst v) w') : wpOp P l.toArray Q i R a w := by
  have hi2 : l.toArray[i]? = some oi := by simpa using hi
  unfold wpOp
  simp only [hi2, hw, if_true]
  left
  unfold Oper.wp
  rw [hv]
  simp only [Oper.upon]
  refine hc.mono fun e w' ⟨v, he, h1⟩ => ?_
  subst he
  exact h1
/-- An operation by a law of its own. -/
theorem o_step {R : Act → World → Prop} {i : Nat} {oi : Oper} (hi : l[i]? = some oi) (hw : Region.wanted oi (yielded l.toArray a.tmps) = true)
    (h : oi.wp P a w R Q) : wpOp P l.toArray Q i R a w := by
  have hi2 : l.toArray[i]? = some oi := by simpa using hi
  unfold wpOp
  simp only [hi2, hw, if_true]
  left
  exact h
end
theorem wp_alloc_row {P : Program} {op : Oper} {a : Act} {w : World} {K : Act → World → Prop} {Q : Exit → Act → World → Prop} (ty : TypeId) (ho : op.op = .alloc ty) (zc : Array Value)
    (hi : (P.info? ty).bind (·.zero) = some (.agg zc)) (h : K (a.put op.dst (.pointer (some ⟨w.heap.size, 0, none⟩))) (w.alloc (.cells zc ty))) : op.wp P a w K Q := by
  have hrun : (execOp a.eval op).run P w = .ok (.value (.pointer (some ⟨w.heap.size, 0, none⟩))) (w.alloc (.cells zc ty)) := by
    cases hq : P.info? ty with
    | none => simp [hq] at hi
    | some i =>
      simp [hq] at hi
      simp [execOp, ho, Instr.alloc, zeroValue, typeInfo, hq, hi, newVar, newRow, Value.cells]
  unfold Oper.wp
  rw [hrun]
  exact h
theorem xzero : (Try.prog.info? 58).bind (·.zero) = some (.agg (row zero32)) := by kernel_rfl
theorem zzero : (Try.prog.info? 80).bind (·.zero) = some (.agg #[.int .i64 0, .int .i64 0]) := by kernel_rfl
theorem zinfo (a b : Value) : (Try.prog.info? 80).map (·.size) = some (#[a, b] : Array Value).size := by show _ = some 2; kernel_rfl
theorem zone2 (a b : Int) : (#[.int .i64 a, .int .i64 b] : Array Value).all (·.oneCell') = true := by simp [Value.oneCell']
theorem xinfo {cs : Array Value} (h : cs.size = 32) : (Try.prog.info? 58).map (·.size) = some cs.size := by rw [h]; exact info_chunk
theorem xc_size (l : List Int) (h : l.length ≤ 32) : (row (slots l)).size = 32 := by rw [row_size]; exact slots_len h
theorem xz_size : (row zero32).size = 32 := by rw [row_size]; rfl

theorem cb3_midy (w : World) (cx cy : Array Value) : Cb (w.heap.size + 1) 58 cy (((w.alloc (.cells cx 58)).alloc (.cells cy 58)).alloc (.cells (row zero32) 58)) := by
  have := (cb_new (w.alloc (.cells cx 58)) 58 cy).alloc (.cells (row zero32) 58)
  rwa [World.size_alloc] at this
theorem cb3_lasty (w : World) (cx cy : Array Value) : Cb (w.heap.size + 2) 58 (row zero32) (((w.alloc (.cells cx 58)).alloc (.cells cy 58)).alloc (.cells (row zero32) 58)) := by
  have := cb_new ((w.alloc (.cells cx 58)).alloc (.cells cy 58)) 58 (row zero32)
  rwa [World.size_alloc, World.size_alloc] at this
theorem isfork_any (N : Nd) (w : World) : Calls Try.prog 69 #[ndv N] w fun e w' => e = .returned (.bool (decide (1 < N.height))) ∧ Below w.heap.size w w' := by
  have hb := (Below.refl w.heap.size w).alloc (Nat.le_refl _) (.cells (ndc N) 111)
  obtain ⟨d, hd⟩ : ∃ d, decide (1 < N.height) = d := ⟨_, rfl⟩
  rw [hd]
  have HB := Lib.hid hb
  clear hb
  cases d <;>
  (go_enter Try.func69, Try.ntmps69
   go_wp2
   go_ret
   exact ⟨rfl, HB.out⟩)
theorem plus_any (a b c d : Nat) (h1 : a + c ≤ 1000000000) (h2 : b + d ≤ 1000000000) (w : World) : Calls Try.prog 70 #[.agg #[.int .i64 (a : Nat), .int .i64 (b : Nat)], .agg #[.int .i64 (c : Nat), .int .i64 (d : Nat)]] w fun e w' =>
    e = .returned (.agg #[.int .i64 (a + c : Nat), .int .i64 (b + d : Nat)]) ∧ Below w.heap.size w w' := by
  have e1 : ((a + c : Nat) : Int) = (a : Int) + (c : Int) := by omega
  have e2 : ((b + d : Nat) : Int) = (b : Int) + (d : Int) := by omega
  rw [e1, e2]
  have u1 : (a : Int) + (c : Int) ≤ 1000000000 := by omega
  have u2 : (b : Int) + (d : Int) ≤ 1000000000 := by omega
  have l1 : 0 ≤ (a : Int) + (c : Int) := by omega
  have l2 : 0 ≤ (b : Int) + (d : Int) := by omega
  clear e1 e2 h1 h2
  go_enter Try.func70, Try.ntmps70
  go_wp2
  have hb := (((Below.refl w.heap.size w).alloc (Nat.le_refl _) (.cells #[.int .i64 (a : Nat), .int .i64 (b : Nat)] 80)).alloc (by simp) (.cells #[.int .i64 (c : Nat), .int .i64 (d : Nat)] 80)).alloc (by simp; omega) (.cells #[.int .i64 ((a : Int) + (c : Int)), .int .i64 ((b : Int) + (d : Int))] 80)
  have hf := heap_alloc_new ((w.alloc (.cells #[.int .i64 (a : Nat), .int .i64 (b : Nat)] 80)).alloc (.cells #[.int .i64 (c : Nat), .int .i64 (d : Nat)] 80)) (.cells #[.int .i64 ((a : Int) + (c : Int)), .int .i64 ((b : Int) + (d : Int))] 80)
  simp only [World.size_alloc] at hf
  exact bodyPost_ret (results_cell_row Try.results70 _ _ _ _ _ _ _ rfl hf Try.underlying80 rfl (zinfo _ _)) rfl ⟨rfl, hb⟩
theorem cb3_mid (w : World) (cx : Array Value) : Cb (w.heap.size + 1) 58 (row zero32) (((w.alloc (.cells cx 58)).alloc (.cells (row zero32) 58)).alloc (.cells (row zero32) 58)) := by
  have := (cb_new (w.alloc (.cells cx 58)) 58 (row zero32)).alloc (.cells (row zero32) 58)
  rwa [World.size_alloc] at this
theorem cb3_last (w : World) (cx : Array Value) : Cb (w.heap.size + 2) 58 (row zero32) (((w.alloc (.cells cx 58)).alloc (.cells (row zero32) 58)).alloc (.cells (row zero32) 58)) := by
  have := cb_new ((w.alloc (.cells cx 58)).alloc (.cells (row zero32) 58)) 58 (row zero32)
  rwa [World.size_alloc, World.size_alloc] at this
theorem mea_any (l : List Int) (h : Chunky l) (w : World) : Calls Try.prog 63 #[cv l] w fun e w' => e = .returned (.agg #[.int .i64 (l.length : Nat), .int .i64 (nl l : Nat)]) ∧ Below w.heap.size w w' := by
  have HL := Lib.hid (fun w => len_any l h w)
  have HN := Lib.hid (fun w => newlines_any l h w)
  have HI := Lib.hid (xinfo (xc_size l h.1))
  unfold cv at *
  obtain ⟨cx, hcx⟩ : ∃ cx, row (slots l) = cx := ⟨_, rfl⟩
  rw [hcx] at HL HN HI ⊢
  have k0 := (cb_new w 58 cx).alloc (.cells #[.int .i64 0, .int .i64 0] 80)
  have z0 : Cb (w.heap.size + 1) 80 #[.int .i64 0, .int .i64 0] ((w.alloc (.cells cx 58)).alloc (.cells #[.int .i64 0, .int .i64 0] 80)) := by
    have := cb_new (w.alloc (.cells cx 58)) 80 #[.int .i64 0, .int .i64 0]
    rwa [World.size_alloc] at this
  have b0 := ((Below.refl w.heap.size w).alloc (Nat.le_refl _) (.cells cx 58)).alloc (by simp) (.cells #[.int .i64 0, .int .i64 0] 80)
  have K0 := Lib.hid (k0.below (below_drew _))
  have Z0 := Lib.hid (z0.below (below_drew _))
  have B0 := Lib.hid (b0.drew)
  clear hcx h k0 z0 b0
  go_enter Try.func63, Try.ntmps63
  go_wp2_with fail
  refine h_start (S := fun W => Cb w.heap.size 58 cx W) (by kernel_rfl) ?_
  refine h_val (i := 0) (v := .agg cx) rfl (by kernel_rfl) (by kernel_rfl) (by kernel_rfl) (fun _ _ _ h => h) (by rfl) (fun w hS => ?_) K0.out ?_
  · skip
    exact x_load 58 (.tmp 1) rfl _ rfl _ _ _ _ hS Try.underlying58 rfl HI.out
  go_frame
  refine h_val (i := 2) (v := .agg cx) rfl (by kernel_rfl) (by kernel_rfl) (by kernel_rfl) (fun _ _ _ h => h) (by rfl) (fun w hS => ?_) K0.out ?_
  · skip
    exact x_load 58 (.tmp 1) rfl _ rfl _ _ _ _ hS Try.underlying58 rfl HI.out
  go_frame
  refine h_all1 (i := 1) (by kernel_rfl) ?_
  refine o_call (f := 47) (args := #[.agg cx]) rfl (by rfl) (by go_simp) ?_
  refine (HL.out _).mono ?_
  rintro e w1 ⟨rfl, b1⟩
  have K1 := Lib.hid (K0.out.below b1)
  have Z1 := Lib.hid (Z0.out.below b1)
  have B1 := Lib.hid (below_add B0.out b1 B0.out.size)
  clear b1
  refine ⟨_, rfl, K1.out, ?_⟩
  go_frame
  refine h_all1 (i := 3) (by kernel_rfl) ?_
  refine o_call (f := 64) (args := #[.agg cx]) rfl (by rfl) (by go_simp) ?_
  refine (HN.out _).mono ?_
  rintro e w2 ⟨rfl, b2⟩
  have K2 := Lib.hid (K1.out.below b2)
  have Z2 := Lib.hid (Z1.out.below b2)
  have B2 := Lib.hid (below_add B1.out b2 B1.out.size)
  clear b2
  refine ⟨_, rfl, K2.out, ?_⟩
  go_frame
  refine h_val (i := 4) (v := .agg #[.int .i64 (l.length : Nat), .int .i64 (nl l : Nat)]) rfl (by kernel_rfl) (by kernel_rfl) (by kernel_rfl) (fun _ _ _ h => h) (by rfl) (fun w hS => ?_) K2.out ?_
  · skip
    go_simp
  go_frame
  refine h_all1 (i := 5) (by kernel_rfl) ?_
  refine o_step rfl (by rfl) ?_
  refine wp_store_row 80 (.tmp 2) (.tmp 7) rfl (w.heap.size + 1) #[.int .i64 (l.length : Nat), .int .i64 (nl l : Nat)] rfl rfl _ _ Z2.out (zinfo _ _) rfl (zone2 _ _) ?_
  have K3 := Lib.hid (K2.out.other (c := w.heap.size + 1) (by omega) #[.int .i64 (l.length : Nat), .int .i64 (nl l : Nat)])
  have Z3 := Lib.hid (Z2.out.set #[.int .i64 (l.length : Nat), .int .i64 (nl l : Nat)])
  have B3 := Lib.hid (below_row (cs := #[.int .i64 (l.length : Nat), .int .i64 (nl l : Nat)]) B2.out (show w.heap.size ≤ w.heap.size + 1 by omega))
  refine ⟨K3.out, ?_⟩
  go_frame
  refine h_done (by kernel_rfl) ?_
  go_wp2
  exact bodyPost_ret (results_cell_row Try.results63 _ _ _ _ _ _ _ rfl Z3.out Try.underlying80 rfl (zinfo _ _)) rfl ⟨rfl, B3.out⟩
theorem results_two_x {fn : Func} {W : World} {a b : Nat} {p q : Tmp} {xs ys : Array Value} (hr : fn.results = #[.cell p 58, .cell q 58]) (hx : xs.size = 32) (hy : ys.size = 32) (ha : Cb a 58 xs W) (hb : Cb b 58 ys W) (tm : Array Value) (h4 : tm.getD p undef = .pointer (some ⟨a, 0, none⟩)) (h5 : tm.getD q undef = .pointer (some ⟨b, 0, none⟩)) :
    (results fn tm).run Try.prog W = .ok (.tuple #[.agg xs, .agg ys]) W := by
  have r4 := run_loadVar_row (P := Try.prog) W a _ 58 xs _ _ ha Try.underlying58 rfl (xinfo hx)
  have r5 := run_loadVar_row (P := Try.prog) W b _ 58 ys _ _ hb Try.underlying58 rfl (xinfo hy)
  have h4' : tm[p]?.getD undef = .pointer (some ⟨a, 0, none⟩) := by simpa using h4
  have h5' : tm[q]?.getD undef = .pointer (some ⟨b, 0, none⟩) := by simpa using h5
  simp [results, hr, h4', h5', asAddr, r4, r5]
theorem results_x_tmp {fn : Func} {W : World} {a : Nat} {p q : Tmp} {xs : Array Value} {v : Value} (hr : fn.results = #[.cell p 58, .tmp q]) (hx : xs.size = 32) (ha : Cb a 58 xs W) (tm : Array Value) (h4 : tm.getD p undef = .pointer (some ⟨a, 0, none⟩)) (h5 : tm.getD q undef = v) :
    (results fn tm).run Try.prog W = .ok (.tuple #[.agg xs, v]) W := by
  have r4 := run_loadVar_row (P := Try.prog) W a _ 58 xs _ _ ha Try.underlying58 rfl (xinfo hx)
  have h4' : tm[p]?.getD undef = .pointer (some ⟨a, 0, none⟩) := by simpa using h4
  have h5' : tm[q]?.getD undef = v := by simpa using h5
  simp [results, hr, h4', h5', asAddr, r4]
theorem cutw_any (l : List Int) (h : Chunky l) (i : Nat) (hi : i ≤ l.length) (w : World) : Calls Try.prog 65 #[cv l, .int .i64 (i : Nat)] w fun e w' => e = .returned (.tuple #[cv (l.take i), cv (l.drop i)]) ∧ Below w.heap.size w w' := by
  have HC := Lib.hid (fun w => split_in l h i hi w)
  have HI := Lib.hid (xinfo (xc_size l h.1))
  have SA := Lib.hid (xc_size _ (h.take i).1)
  have SB := Lib.hid (xc_size _ (h.drop i).1)
  have OA1 := Lib.hid (row_one (slots (l.take i)))
  have OB1 := Lib.hid (row_one (slots (l.drop i)))
  unfold cv at *
  obtain ⟨cx, hcx⟩ : ∃ cx, row (slots l) = cx := ⟨_, rfl⟩
  obtain ⟨ca, hca⟩ : ∃ ca, row (slots (l.take i)) = ca := ⟨_, rfl⟩
  obtain ⟨cb, hcb⟩ : ∃ cb, row (slots (l.drop i)) = cb := ⟨_, rfl⟩
  rw [hca, hcb] at HC ⊢
  rw [hca] at SA OA1
  rw [hcb] at SB OB1
  rw [hcx] at HC HI ⊢
  clear hcx hca hcb h hi
  go_enter Try.func65, Try.ntmps65
  go_upto_region 1 with fail
  refine with_worldT (fun W => Cb w.heap.size 58 cx W ∧ Cb (w.heap.size + 1) 58 (row zero32) W ∧ Cb (w.heap.size + 2) 58 (row zero32) W ∧ Below w.heap.size w W) ⟨((cb_new w _ cx).alloc _).alloc _, cb3_mid w cx, cb3_last w cx, ((((Below.refl _ w).alloc (Nat.le_refl _) _).alloc (by simp) _).alloc (by simp; omega) _)⟩ fun W0 hW0 => ?_
  have H0 := Lib.hid hW0
  clear hW0
  go_wp2_with (first
    | (refine wpList_load_roww 58 (.tmp 2) rfl w.heap.size rfl (by rfl) _ _ _ _ H0.out.1 Try.underlying58 rfl HI.out ?_)
    | (go_at_call 66; refine (HC.out _).mono ?_; rintro e w1 ⟨rfl, b1⟩; have A1 := Lib.hid (H0.out.2.1.below b1); have V1 := Lib.hid (H0.out.2.2.1.below b1); have B1 := Lib.hid (below_add H0.out.2.2.2 b1 H0.out.2.2.2.size); clear b1 H0; have A2 := Lib.hid (A1.out.set ca); have V2 := Lib.hid (V1.out.other (c := w.heap.size + 1) (by omega) ca); have A3 := Lib.hid (A2.out.other (c := w.heap.size + 2) (by omega) cb); have V3 := Lib.hid (V2.out.set cb); have B3 := Lib.hid (below_row (cs := cb) (below_row (cs := ca) B1.out (show w.heap.size ≤ w.heap.size + 1 by omega)) (show w.heap.size ≤ w.heap.size + 2 by omega)))
    | (refine wpList_store_row rfl 58 (.tmp 4) (.tmp 10) rfl (w.heap.size + 1) ca rfl rfl _ _ A1.out (xinfo SA.out) (by rw [SA.out]; exact xz_size) OA1.out ?_)
    | (refine wpList_store_row rfl 58 (.tmp 5) (.tmp 11) rfl (w.heap.size + 2) cb rfl rfl _ _ V2.out (xinfo SB.out) (by rw [SB.out]; exact xz_size) OB1.out ?_))
  refine with_worldT (fun W => Cb (w.heap.size + 1) 58 ca W ∧ Cb (w.heap.size + 2) 58 cb W ∧ Below w.heap.size w W) ⟨A3.out, V3.out, B3.out⟩ fun W1 hW1 => ?_
  have K0 := Lib.hid (show Cb (w.heap.size + 1) 58 ca W1.drew ∧ Cb (w.heap.size + 2) 58 cb W1.drew from ⟨hW1.1.below (below_drew _), hW1.2.1.below (below_drew _)⟩)
  have B4 := Lib.hid hW1.2.2.drew
  clear hW1 A1 V1 B1 A2 V2 A3 V3 B3 HC HI
  refine h_start (S := fun W => Cb (w.heap.size + 1) 58 ca W ∧ Cb (w.heap.size + 2) 58 cb W) (by kernel_rfl) ?_
  refine h_val (i := 0) (v := .agg ca) rfl (by kernel_rfl) (by kernel_rfl) (by kernel_rfl) (fun _ _ _ h => h) (by rfl) (fun w hS => ?_) K0.out ?_
  · skip
    exact x_load 58 (.tmp 4) rfl _ rfl _ _ _ _ hS.1 Try.underlying58 rfl (xinfo SA.out)
  go_frame
  refine h_val (i := 1) (v := .agg cb) rfl (by kernel_rfl) (by kernel_rfl) (by kernel_rfl) (fun _ _ _ h => h) (by rfl) (fun w hS => ?_) K0.out ?_
  · skip
    exact x_load 58 (.tmp 5) rfl _ rfl _ _ _ _ hS.2 Try.underlying58 rfl (xinfo SB.out)
  go_frame
  refine h_all1 (i := 2) (by kernel_rfl) ?_
  refine o_step rfl (by rfl) ?_
  refine wp_store_row 58 (.tmp 4) (.tmp 13) rfl (w.heap.size + 1) ca rfl rfl _ _ K0.out.1 (xinfo SA.out) rfl OA1.out ?_
  have K1 := Lib.hid (show Cb (w.heap.size + 1) 58 ca (W1.drew.setRow (w.heap.size + 1) ca) ∧ Cb (w.heap.size + 2) 58 cb (W1.drew.setRow (w.heap.size + 1) ca) from ⟨K0.out.1.set ca, K0.out.2.other (by omega) ca⟩)
  refine ⟨K1.out, ?_⟩
  go_frame
  refine h_all1 (i := 3) (by kernel_rfl) ?_
  refine o_step rfl (by rfl) ?_
  refine wp_store_row 58 (.tmp 5) (.tmp 14) rfl (w.heap.size + 2) cb rfl rfl _ _ K1.out.2 (xinfo SB.out) rfl OB1.out ?_
  have K2 := Lib.hid (show Cb (w.heap.size + 1) 58 ca ((W1.drew.setRow (w.heap.size + 1) ca).setRow (w.heap.size + 2) cb) ∧ Cb (w.heap.size + 2) 58 cb ((W1.drew.setRow (w.heap.size + 1) ca).setRow (w.heap.size + 2) cb) from ⟨K1.out.1.other (by omega) cb, K1.out.2.set cb⟩)
  refine ⟨K2.out, ?_⟩
  go_frame
  refine h_done (by kernel_rfl) ?_
  go_wp2
  exact bodyPost_ret (results_two_x Try.results65 SA.out SB.out K2.out.1 K2.out.2 _ rfl rfl) rfl ⟨rfl, below_row (below_row B4.out (by omega)) (by omega)⟩

def melO (l m : List Int) : List Int := if l.length + m.length ≤ 32 then l ++ m else []
def melB (l m : List Int) : Bool := decide (l.length + m.length ≤ 32)
theorem melO_len (l m : List Int) : (melO l m).length ≤ 32 := by unfold melO; split <;> simp; omega
theorem joins_any (l m : List Int) (hl : Chunky l) (hm : Chunky m) (w : World) : ∃ er : Int, (er == 0) = melB l m ∧ Calls Try.prog 68 #[cv l, cv m] w fun e w' => e = .returned (.tuple #[cv (melO l m), .int .i64 er]) ∧ Below w.heap.size w w' := by
  by_cases h : l.length + m.length ≤ 32
  · refine ⟨0, by simp [melB, h], ?_⟩
    have e1 : melO l m = l ++ m := by unfold melO; rw [if_pos h]
    rw [e1]
    exact join_fit l m hl hm h w
  · refine ⟨8, by simp [melB, h], ?_⟩
    have e1 : melO l m = [] := by unfold melO; rw [if_neg h]
    rw [e1]
    exact join_long l m hl hm (by omega) w
theorem meld_any (l m : List Int) (hl : Chunky l) (hm : Chunky m) (w : World) : Calls Try.prog 67 #[cv l, cv m] w fun e w' => e = .returned (.tuple #[cv (melO l m), .bool (melB l m)]) ∧ Below w.heap.size w w' := by
  have HJ0 := fun w => joins_any l m hl hm w
  have HI := Lib.hid (xinfo (xc_size l hl.1))
  have HM := Lib.hid (xinfo (xc_size m hm.1))
  have SA := Lib.hid (xc_size _ (melO_len l m))
  have OA1 := Lib.hid (row_one (slots (melO l m)))
  obtain ⟨bb, hbb⟩ : ∃ bb, melB l m = bb := ⟨_, rfl⟩
  unfold cv at *
  obtain ⟨cx, hcx⟩ : ∃ cx, row (slots l) = cx := ⟨_, rfl⟩
  obtain ⟨cy, hcy⟩ : ∃ cy, row (slots m) = cy := ⟨_, rfl⟩
  obtain ⟨ca, hca⟩ : ∃ ca, row (slots (melO l m)) = ca := ⟨_, rfl⟩
  rw [hcx, hcy, hca, hbb] at HJ0
  rw [hbb, hca, hcx, hcy]
  rw [hcx] at HI
  rw [hcy] at HM
  rw [hca] at SA OA1
  have HJ := Lib.hid HJ0
  clear hcx hcy hca hl hm hbb HJ0
  go_enter Try.func67, Try.ntmps67
  go_upto_region 1 with fail
  refine with_worldT (fun W => Cb w.heap.size 58 cx W ∧ Cb (w.heap.size + 1) 58 cy W ∧ Cb (w.heap.size + 2) 58 (row zero32) W ∧ Below w.heap.size w W) ⟨((cb_new w _ cx).alloc _).alloc _, cb3_midy w cx cy, cb3_lasty w cx cy, ((((Below.refl _ w).alloc (Nat.le_refl _) _).alloc (by simp) _).alloc (by simp; omega) _)⟩ fun W0 hW0 => ?_
  have H0 := Lib.hid hW0
  clear hW0
  obtain ⟨er, her, hj⟩ := HJ.out W0
  have HJ1 := Lib.hid hj
  clear HJ hj
  go_wp2_with (first
    | (refine wpList_load_roww 58 (.tmp 2) rfl w.heap.size rfl (by rfl) _ _ _ _ H0.out.1 Try.underlying58 rfl HI.out ?_)
    | (refine wpList_load_roww 58 (.tmp 3) rfl (w.heap.size + 1) rfl (by rfl) _ _ _ _ H0.out.2.1 Try.underlying58 rfl HM.out ?_)
    | (go_at_call 68; refine HJ1.out.mono ?_; rintro e w1 ⟨rfl, b1⟩; have A1 := Lib.hid ((H0.out.2.2.1.below b1).alloc (.cells (row zero32) 58)); have B1 := Lib.hid ((below_add H0.out.2.2.2 b1 H0.out.2.2.2.size).alloc (by have := H0.out.2.2.2.size; have := b1.size; omega) (.cells (row zero32) 58)); have V1 := Lib.hid (cb_new w1 58 (row zero32)); have Z1 : w.heap.size + 2 < w1.heap.size := Nat.lt_of_lt_of_le H0.out.2.2.1.lt b1.size; clear b1; have V2 := Lib.hid (V1.out.set ca); have A2 := Lib.hid (A1.out.other (c := w1.heap.size) (by omega) ca); have A3 := Lib.hid (A2.out.set ca); have B2 := Lib.hid (below_row (cs := ca) (below_row (cs := ca) B1.out (show w.heap.size ≤ w1.heap.size by omega)) (show w.heap.size ≤ w.heap.size + 2 by omega)))
    | (refine wpList_store_row rfl 58 (.tmp 6) (.tmp 12) rfl w1.heap.size ca rfl rfl _ _ V1.out (xinfo SA.out) (by rw [SA.out]; exact xz_size) OA1.out ?_)
    | (refine wpList_load_roww 58 (.tmp 6) rfl w1.heap.size rfl (by rfl) _ _ _ _ V2.out Try.underlying58 rfl (xinfo SA.out) ?_)
    | (refine wpList_store_row rfl 58 (.tmp 4) (.tmp 14) rfl (w.heap.size + 2) ca rfl rfl _ _ A2.out (xinfo SA.out) (by rw [SA.out]; exact xz_size) OA1.out ?_))
  exact bodyPost_ret (results_x_tmp Try.results67 SA.out A3.out _ rfl rfl) rfl ⟨rfl, B2.out⟩
end Go.Proofs.Ytjgfgpkaeddjhaa
