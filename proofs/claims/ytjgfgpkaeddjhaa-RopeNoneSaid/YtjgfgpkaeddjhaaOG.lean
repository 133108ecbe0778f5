
import Derived.Test.YtjgfgpkaeddjhaaOF
import Derived.Deep.RegionHeld
import Derived.Maps.RangeWalk
/- OG: Split -/
namespace Go.Proofs.Ytjgfgpkaeddjhaa
open Go.RowKit
set_option linter.unusedVariables false

def none3 : Value := .tuple #[.agg (row zero32), .agg (row zero32), .int .i64 5]

/-- A chunk's own row, and two results' rows. -/
structure Res2 (w : World) (xs ys zs : List Int) (W : World) : Prop where
  par : RowAt w.heap.size 58 xs W
  a : RowAt (w.heap.size + 1) 58 ys W
  b : RowAt (w.heap.size + 2) 58 zs W
  bel : Below w.heap.size w W
theorem res2_new (w : World) (xs : List Int) : Res2 w xs zero32 zero32 (((w.alloc (.cells (row xs) 58)).alloc (.cells (row zero32) 58)).alloc (.cells (row zero32) 58)) :=
  let h := two_new w 58 xs
  ⟨h.par, h.res, h.var, h.bel⟩
theorem Res2.below {w W W' : World} {xs ys zs : List Int} (h : Res2 w xs ys zs W) (hb : Below W.heap.size W W') : Res2 w xs ys zs W' := ⟨h.par.below hb, h.a.below hb, h.b.below hb, below_add h.bel hb h.bel.size⟩
theorem Res2.seta {w W : World} {xs ys zs : List Int} (h : Res2 w xs ys zs W) (ys' : List Int) : Res2 w xs ys' zs (W.setRow (w.heap.size + 1) (row ys')) := ⟨h.par.setRow_other (by omega) _, h.a.setRow, h.b.setRow_other (by omega) _, below_setRow h.bel (by omega) _⟩
theorem Res2.setb {w W : World} {xs ys zs : List Int} (h : Res2 w xs ys zs W) (zs' : List Int) : Res2 w xs ys zs' (W.setRow (w.heap.size + 2) (row zs')) := ⟨h.par.setRow_other (by omega) _, h.a.setRow_other (by omega) _, h.b.setRow, below_setRow h.bel (by omega) _⟩
theorem Res2.drew {w W : World} {xs ys zs : List Int} (h : Res2 w xs ys zs W) : Res2 w xs ys zs W.drew := h.below (below_drew W)

/-! a struct of one whole row, built -/
theorem fold_get (L : List Value) : ∀ (k : Nat) (Z : Array Value) (j : Nat), j < Z.size → ((L.zipIdx k).foldl (fun cs x => cs.setIfInBounds x.2 x.1) Z)[j]? = if k ≤ j ∧ j < k + L.length then L[j - k]? else Z[j]? := by
  induction L with
  | nil => intro k Z j hj; simp; intro h1 h2; omega
  | cons x L ih =>
    intro k Z j hj
    rw [List.zipIdx_cons, List.foldl_cons, ih (k + 1) _ j (by simpa using hj), List.length_cons, Array.getElem?_setIfInBounds]
    by_cases h1 : k = j
    · subst h1
      rw [if_neg (by omega), if_pos rfl, if_pos hj, if_pos (by omega), Nat.sub_self, List.getElem?_cons_zero]
    · rw [if_neg h1]
      by_cases h2 : k + 1 ≤ j ∧ j < k + 1 + L.length
      · rw [if_pos h2, if_pos (by omega), show j - k = (j - (k + 1)) + 1 by omega, List.getElem?_cons_succ]
      · rw [if_neg h2, if_neg (by omega)]
theorem fold_size (L : List (Value × Nat)) : ∀ (Z : Array Value), (L.foldl (fun cs x => cs.setIfInBounds x.2 x.1) Z).size = Z.size := by
  induction L with
  | nil => intro Z; rfl
  | cons x L ih => intro Z; rw [List.foldl_cons, ih]; simp
theorem fold_row (xs : List Int) (hx : xs.length = 32) (Z : Array Value) (hz : Z.size = 32) : Array.foldl (fun cs x => cs.setIfInBounds x.2 x.1) Z ((row xs).zipIdx 0) 0 32 = row xs := by
  have hs : (row xs).size = 32 := by rw [row_size, hx]
  have e : Array.foldl (fun (cs : Array Value) x => cs.setIfInBounds x.2 x.1) Z ((row xs).zipIdx 0) 0 32 = ((row xs).toList.zipIdx 0).foldl (fun cs x => cs.setIfInBounds x.2 x.1) Z := by
    have e2 : 32 = ((row xs).zipIdx 0).size := by simp [hs]
    rw [← Array.toList_zipIdx, e2, Array.foldl_toList]
  rw [e]
  apply Array.ext_getElem?
  intro j
  by_cases hj : j < 32
  · rw [fold_get _ 0 Z j (by omega), if_pos (by simp [row, hx]; omega)]
    simp [row]
  · rw [Array.getElem?_eq_none (by rw [fold_size, hz]; omega), Array.getElem?_eq_none (by rw [hs]; omega)]

/-! a region that draws its order, walked by hand -/
section
variable {P : Program} {l : List Oper} {Q : Exit → Act → World → Prop} {md : Region.Mode} {S : World → Prop} {fuel : Nat} {listed : Array Bool} {a : Act} {w : World}
theorem h_val {i : Nat} {oi : Oper} {v : Value} (hi : l[i]? = some oi) (hs : Region.noSelect l.toArray = true) (hf : Region.free md l.toArray listed i = true) (hr : (Region.ready md l.toArray listed).contains i = true)
    (hQ : ∀ c a w, Q (.panic c) (a.put oi.dst v) w → Q (.panic c) a w) (hw : Region.wanted oi (yielded l.toArray a.tmps) = true) (hv : ∀ w, S w → (execOp a.eval oi).run P w = .ok (.value v) w) (hS : S w)
    (h : wpAnyH P md l.toArray Q S fuel (listed.setIfInBounds i true) (a.put oi.dst v) w) : wpAnyH P md l.toArray Q S (fuel + 1) listed a w :=
  wpAnyH_take (by simpa using hi) hs hf hr hQ (.inl ⟨hw, hv⟩) hS h
theorem h_call {i : Nat} {oi : Oper} {f : FuncId} {args : Array Value} (hi : l[i]? = some oi) (hr : Region.ready md l.toArray listed = [i]) (hw : Region.wanted oi (yielded l.toArray a.tmps) = true)
    (hv : (execOp a.eval oi).run P w = .ok (.enter f args) w)
    (hc : Calls P f args w fun e w' => ∃ v, e = .returned v ∧ S w' ∧ wpAnyH P md l.toArray Q S fuel (listed.setIfInBounds i true) (a.put oi.dst v) w') : wpAnyH P md l.toArray Q S (fuel + 1) listed a w := by
  refine wpAnyH_all hr (by simp) fun j hj => ?_
  simp at hj
  subst hj
  have hi2 : l.toArray[j]? = some oi := by simpa using hi
  unfold wpOp
  simp only [hi2, hw, if_true]
  left
  unfold Oper.wp
  rw [hv]
  simp only [Oper.upon]
  refine hc.mono fun e w' ⟨v, he, h1, h2⟩ => ?_
  subst he
  exact ⟨h1, h2⟩
theorem h_start {id : Nat} (hm : P.follows .mixedOrders = true) (h : wpAnyH P .any l.toArray Q S l.toArray.size (Array.replicate l.toArray.size false) a w.drew) : (Code.region id l.toArray true).wp P Q a w := wp_region_held hm h
theorem h_done (hr : Region.ready md l.toArray listed = []) (h : Q .normal a w) : wpAnyH P md l.toArray Q S fuel listed a w := wpAnyH_done hr h _
/-- An operation that turns the world, the only one that may come up. -/
theorem h_step {i : Nat} {oi : Oper} (hi : l[i]? = some oi) (hr : Region.ready md l.toArray listed = [i]) (hw : Region.wanted oi (yielded l.toArray a.tmps) = true)
    (h : ∀ K : Act → World → Prop, (∀ a' w', S w' → wpAnyH P md l.toArray Q S fuel (listed.setIfInBounds i true) a' w' → K a' w') → oi.wp P a w K Q) : wpAnyH P md l.toArray Q S (fuel + 1) listed a w := by
  refine wpAnyH_all hr (by simp) fun j hj => ?_
  simp at hj
  subst hj
  have hi2 : l.toArray[j]? = some oi := by simpa using hi
  unfold wpOp
  simp only [hi2, hw, if_true]
  left
  exact h _ fun a' w' h1 h2 => ⟨h1, h2⟩
/-- A whole row that is loaded, as a value. -/
theorem x_load {o : Oper} (ty : TypeId) (x : Operand) (ho : o.op = .load ty x) (g : Nat) (hx : a.eval x = .pointer (some ⟨g, 0, none⟩)) (t : TypeId) (cs : Array Value) (fr : Nat × Nat) (d : TypeDesc) (hg : w.heap[g]? = some (.cells cs t fr))
    (hu : P.underlying ty = some d) (hd : (match d with | .struct _ | .array _ _ => true | _ => false) = true) (hi : (P.info? ty).map (·.size) = some cs.size) : (execOp a.eval o).run P w = .ok (.value (.agg cs)) w := by
  unfold execOp
  simp only [ho, hx, Instr.loadAt, Instr.sureAddr, Sem.run_bind, Sem.run_pure, Result.andThen_ok, run_loadVar_row w g t ty cs fr d hg hu hd hi]
end

theorem results_split {W w : World} {xs ys zs : List Int} (hy : ys.length = 32) (hz : zs.length = 32) (h : Res2 w xs ys zs W) (tm : Array Value) (h4 : tm.getD 4 undef = .pointer (some ⟨w.heap.size + 1, 0, none⟩)) (h5 : tm.getD 5 undef = .pointer (some ⟨w.heap.size + 2, 0, none⟩)) {e : Int} (h6 : tm.getD 6 undef = .int .i64 e) :
    (results Try.f66 tm).run Try.prog W = .ok (.tuple #[.agg (row ys), .agg (row zs), .int .i64 e]) W := by
  have r4 := run_loadVar_row (P := Try.prog) W (w.heap.size + 1) _ 58 (row ys) _ _ h.a Try.underlying58 rfl (info_chunk32 ys hy)
  have r5 := run_loadVar_row (P := Try.prog) W (w.heap.size + 2) _ 58 (row zs) _ _ h.b Try.underlying58 rfl (info_chunk32 zs hz)
  have h4' : tm[4]?.getD undef = .pointer (some ⟨w.heap.size + 1, 0, none⟩) := by simpa using h4
  have h5' : tm[5]?.getD undef = .pointer (some ⟨w.heap.size + 2, 0, none⟩) := by simpa using h5
  have h6' : tm[6]?.getD undef = .int .i64 e := by simpa using h6
  simp [results, Try.results66, h4', h5', h6', asAddr, r4, r5]

theorem split_neg (l : List Int) (h : Chunky l) (i : Int) (hi : i < 0) (w : World) : Calls Try.prog 66 #[cv l, .int .i64 i] w fun e w' => e = .returned none3 ∧ Below w.heap.size w w' := by
  have g0 : decide (i < 0) = true := by rw [decide_eq_true_iff]; exact hi
  have HZ := Lib.hid zero32_len
  have H := Lib.hid (res2_new w (slots l))
  have H1 := Lib.hid (H.out.seta zero32)
  have H2 := Lib.hid (H1.out.setb zero32)
  unfold cv
  go_enter Try.func66, Try.ntmps66
  go_wp2_with (first
    | (refine wpList_store_row rfl 58 (.tmp 4) (.tmp 15) rfl (w.heap.size + 1) (row zero32) rfl rfl _ _ H.out.a (info_chunk32 _ HZ.out) rfl (row_one _) ?_)
    | (refine wpList_store_row rfl 58 (.tmp 5) (.tmp 16) rfl (w.heap.size + 2) (row zero32) rfl rfl _ _ H1.out.b (info_chunk32 _ HZ.out) rfl (row_one _) ?_))
  exact bodyPost_ret (results_split HZ.out HZ.out H2.out _ rfl rfl rfl) rfl ⟨rfl, H2.out.bel⟩

theorem split_past (l : List Int) (h : Chunky l) (i : Int) (hi : (l.length : Int) < i) (w : World) : Calls Try.prog 66 #[cv l, .int .i64 i] w fun e w' => e = .returned none3 ∧ Below w.heap.size w w' := by
  have g0 : decide (i < 0) = false := by rw [decide_eq_false_iff_not]; omega
  have g1 : decide ((l.length : Int) < i) = true := by rw [decide_eq_true_iff]; exact hi
  have HZ := Lib.hid zero32_len
  have H := Lib.hid (res2_new w (slots l))
  have HN := Lib.hid (fun w => len_any l h w)
  have HI := Lib.hid (info_chunk32 _ (slots_len h.1))
  unfold cv at *
  go_enter Try.func66, Try.ntmps66
  go_wp2_with (first
    | (refine wpList_load_roww 58 (.tmp 2) rfl w.heap.size rfl (by rfl) _ _ _ _ H.out.par Try.underlying58 rfl HI.out ?_)
    | (go_at_call 47; refine (HN.out _).mono ?_; rintro e w1 ⟨rfl, b1⟩; have K := Lib.hid (H.out.below b1); have K1 := Lib.hid (K.out.seta zero32); have K2 := Lib.hid (K1.out.setb zero32); clear b1 H)
    | (refine wpList_store_row rfl 58 (.tmp 4) (.tmp 15) rfl (w.heap.size + 1) (row zero32) rfl rfl _ _ K.out.a (info_chunk32 _ HZ.out) rfl (row_one _) ?_)
    | (refine wpList_store_row rfl 58 (.tmp 5) (.tmp 16) rfl (w.heap.size + 2) (row zero32) rfl rfl _ _ K1.out.b (info_chunk32 _ HZ.out) rfl (row_one _) ?_))
  exact bodyPost_ret (results_split HZ.out HZ.out K2.out _ rfl rfl rfl) rfl ⟨rfl, K2.out.bel⟩

set_option maxRecDepth 100000 in
theorem split_in (l : List Int) (h : Chunky l) (i : Nat) (hi : i ≤ l.length) (w : World) : Calls Try.prog 66 #[cv l, .int .i64 i] w fun e w' => e = .returned (.tuple #[cv (l.take i), cv (l.drop i), .int .i64 0]) ∧ Below w.heap.size w w' := by
  have g0 : decide ((i : Int) < 0) = false := by rw [decide_eq_false_iff_not]; omega
  have g1 : decide (l.length < i) = false := by rw [decide_eq_false_iff_not]; omega
  have HZ := Lib.hid zero32_len
  have H := Lib.hid (res2_new w (slots l))
  have HN := Lib.hid (fun w => len_any l h w)
  have HI := Lib.hid (info_chunk32 _ (slots_len h.1))
  have HS := Lib.hid (info_slots32 _ (slots_len h.1))
  have h32 := h.1
  have HF := Lib.hid (fun w => first_any (slots l) (slots_len h.1) i (by omega) w)
  have HG := Lib.hid (fun w => behind_any (slots l) (slots_len h.1) i (by omega) w)
  have e1 := slots_fst l h32 (i := i) (by omega)
  have e2 := slots_bhd l h32 (i := i) (by omega)
  rw [e1] at HF
  rw [e2] at HG
  have LA := Lib.hid (slots_len (h.take i).1)
  have LB := Lib.hid (slots_len (h.drop i).1)
  unfold cv at *
  clear e1 e2
  obtain ⟨xs, hxs⟩ : ∃ xs, slots l = xs := ⟨_, rfl⟩
  obtain ⟨ys, hys⟩ : ∃ ys, slots (l.take i) = ys := ⟨_, rfl⟩
  obtain ⟨zs, hzs⟩ : ∃ zs, slots (l.drop i) = zs := ⟨_, rfl⟩
  rw [hxs] at H HN HI HS HF HG ⊢
  rw [hys] at HF LA ⊢
  rw [hzs] at HG LB ⊢
  clear hxs hys hzs h h32
  have BY := Lib.hid (fold_row ys LA.out)
  have BZ := Lib.hid (fold_row zs LB.out)
  have SY := Lib.hid (show (row ys).size = 32 by rw [row_size, LA.out])
  have SZ := Lib.hid (show (row zs).size = 32 by rw [row_size, LB.out])
  go_enter Try.func66, Try.ntmps66
  go_wp2_with (first
    | (refine wpList_load_roww 58 (.tmp 2) rfl w.heap.size rfl (by rfl) _ _ _ _ H.out.par Try.underlying58 rfl HI.out ?_)
    | (go_at_call 47; refine (HN.out _).mono ?_; rintro e w1 ⟨rfl, b1⟩; have K := Lib.hid (H.out.below b1); clear b1 H))
  refine h_start (S := fun W => RowAt w.heap.size 58 xs W) (by kernel_rfl) ?_
  have K0 := Lib.hid K.out.drew
  refine h_val (i := 0) (v := .pointer (some ⟨w.heap.size, 0, none⟩)) rfl (by kernel_rfl) (by kernel_rfl) (by kernel_rfl) (fun _ _ _ h => h) (by rfl) (fun w hS => ?_) K0.out.par ?_
  · clear K K0 HI HS HN HF HG hS
    go_simp
  go_frame
  refine h_val (i := 1) (v := .agg (row xs)) rfl (by kernel_rfl) (by kernel_rfl) (by kernel_rfl) (fun _ _ _ h => h) (by rfl) (fun w hS => x_load 56 (.tmp 17) rfl _ rfl _ _ _ _ hS Try.underlying56 rfl HS.out) K0.out.par ?_
  go_frame
  refine h_val (i := 2) (v := .int .i64 i) rfl (by kernel_rfl) (by kernel_rfl) (by kernel_rfl) (fun _ _ _ h => h) (by rfl) (fun w hS => ?_) K0.out.par ?_
  · clear K K0 HI HS HN HF HG hS
    go_simp
  go_frame
  refine h_val (i := 5) (v := .pointer (some ⟨w.heap.size, 0, none⟩)) rfl (by kernel_rfl) (by kernel_rfl) (by kernel_rfl) (fun _ _ _ h => h) (by rfl) (fun w hS => ?_) K0.out.par ?_
  · clear K K0 HI HS HN HF HG hS
    go_simp
  go_frame
  refine h_val (i := 6) (v := .agg (row xs)) rfl (by kernel_rfl) (by kernel_rfl) (by kernel_rfl) (fun _ _ _ h => h) (by rfl) (fun w hS => x_load 56 (.tmp 22) rfl _ rfl _ _ _ _ hS Try.underlying56 rfl HS.out) K0.out.par ?_
  go_frame
  refine h_val (i := 7) (v := .int .i64 i) rfl (by kernel_rfl) (by kernel_rfl) (by kernel_rfl) (fun _ _ _ h => h) (by rfl) (fun w hS => ?_) K0.out.par ?_
  · clear K K0 HI HS HN HF HG hS
    go_simp
  go_frame
  refine h_call (i := 3) (f := 89) (args := #[.agg (row xs), .int .i64 i]) rfl (by kernel_rfl) (by rfl) (by go_simp) ?_
  refine (HF.out _).mono ?_
  rintro e w2 ⟨rfl, b2⟩
  have K2 := Lib.hid (K0.out.below b2)
  refine ⟨_, rfl, K2.out.par, ?_⟩
  clear b2
  go_frame
  refine h_val (i := 4) (v := .agg (row ys)) rfl (by kernel_rfl) (by kernel_rfl) (by kernel_rfl) (fun _ _ _ h => h) (by rfl) (fun w hS => ?_) K2.out.par ?_
  · clear K K0 K2 HI HS HN HF HG hS
    have hb := BY.out
    have hs := SY.out
    go_simp
  go_frame
  refine h_call (i := 8) (f := 90) (args := #[.agg (row xs), .int .i64 i]) rfl (by kernel_rfl) (by rfl) (by go_simp) ?_
  refine (HG.out _).mono ?_
  rintro e w3 ⟨rfl, b3⟩
  have K3 := Lib.hid (K2.out.below b3)
  refine ⟨_, rfl, K3.out.par, ?_⟩
  clear b3
  go_frame
  refine h_val (i := 9) (v := .agg (row zs)) rfl (by kernel_rfl) (by kernel_rfl) (by kernel_rfl) (fun _ _ _ h => h) (by rfl) (fun w hS => ?_) K3.out.par ?_
  · clear K K0 K2 K3 HI HS HN HF HG hS
    have hb := BZ.out
    have hs := SZ.out
    go_simp
  go_frame
  have K4 := Lib.hid (K3.out.seta ys)
  have K5 := Lib.hid (K4.out.setb zs)
  refine h_step (i := 10) rfl (by kernel_rfl) (by rfl) (fun K hK => ?_)
  refine wp_store_row 58 (.tmp 4) (.tmp 21) rfl (w.heap.size + 1) (row ys) rfl rfl _ _ K3.out.a (info_chunk32 _ LA.out) (by rw [row_size, row_size, HZ.out, LA.out]) (row_one _) ?_
  refine hK _ _ K4.out.par ?_
  go_frame
  refine h_step (i := 11) rfl (by kernel_rfl) (by rfl) (fun K hK => ?_)
  refine wp_store_row 58 (.tmp 5) (.tmp 26) rfl (w.heap.size + 2) (row zs) rfl rfl _ _ K4.out.b (info_chunk32 _ LB.out) (by rw [row_size, row_size, HZ.out, LB.out]) (row_one _) ?_
  refine hK _ _ K5.out.par ?_
  go_frame
  refine h_val (i := 12) (v := .int .i64 0) rfl (by kernel_rfl) (by kernel_rfl) (by kernel_rfl) (fun _ _ _ h => h) (by rfl) (fun w hS => ?_) K5.out.par ?_
  · go_simp
  go_frame
  refine h_done (by kernel_rfl) ?_
  go_wp2
  exact bodyPost_ret (results_split LA.out LB.out K5.out _ rfl rfl rfl) rfl ⟨rfl, K5.out.bel⟩
end Go.Proofs.Ytjgfgpkaeddjhaa
