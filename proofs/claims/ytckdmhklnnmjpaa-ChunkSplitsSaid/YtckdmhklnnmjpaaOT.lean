
import Derived.Test.YtckdmhklnnmjpaaOP
/- OT: ChunkSplits -/
namespace Go.Proofs.Ytckdmhklnnmjpaa
open Go.RowKit
set_option linter.unusedVariables false

theorem ints_head {k : IntKind} {w : World} {a : Option Addr} {n cap j : Nat} {xs : List Int} (h : Ints k w (.slice a n cap) xs) (hj : j ≤ xs.length) : Ints k w (.slice a j cap) (xs.take j) := by
  rcases h with ⟨a', cap', hv, rfl, hm, hn⟩ | ⟨b, off, cap', hv, h0, h1, hm, hc⟩
  · injection hv with e1 e2 e3
    subst e1 e3
    obtain rfl : j = 0 := by simpa using hj
    exact .inl ⟨a, cap, rfl, by simp, hm, hn⟩
  · injection hv with e1 e2 e3
    subst e1 e3
    exact Ints.head hj h1 hm hc

/-- append(out, src...) at one operation: out the call's own, src whatever slice of integers, nil too. -/
theorem wp_append_ints {P : Program} {w : World} {o : Oper} {a : Act} {K : Act → World → Prop} {Q : Exit → Act → World → Prop} (s x : Operand) (t : TypeId)
    (ho : o.op = .call { callee := .builtin .append, args := #[s, x], argTypes := #[t, t] })
    (base : Nat) (e : TypeId) (i : TypeInfo) (z : Value) (bytes : Nat) (ht : P.underlying t = some (.slice e)) (hi : P.info? e = some i) (hz : i.zero = some z)
    (hsize : i.size = 1) (hby : i.bytes = bytes) (hzs : z.cells.size = 1)
    (v : Value) (n : Nat) (cs : List Value) (hs : a.eval s = v) (hown : w.ownsRow base e 1 v n cs)
    (u : Value) (k : IntKind) (ys : List Int) (hx : a.eval x = u) (hu : Ints k w u ys)
    (h63 : n + ys.length ≤ maxLen) (hbytes : (n + ys.length) * bytes ≤ 140737488355328) (hbase : base ≤ w.heap.size)
    (h : ∀ v' w', w'.ownsRow base e 1 v' (n + ys.length) (cs ++ ys.map (Value.int k)) → w.grownBy w' v.ownBlock → K (a.put o.dst v') w') : o.wp P a w K Q := by
  rcases hu with ⟨ad, cap, rfl, rfl, hm, hc0⟩ | ⟨b, off, cap, rfl, h0, h1, hm, hc⟩
  · cases ad with
    | none =>
      obtain rfl := hc0 rfl
      have hrun := run_append_owned_none (P := P) (w := w) base t o.type e i 1 ht hi v n cs hown
      unfold Oper.wp
      simp [execOp, ho, resolve, invoke, builtin, hs, hx, hrun, Result.andThen]
      exact h v w (by simpa using hown) (grown_refl _ _)
    | some ad =>
      exact wp_append_own w s x t ho base e i z 1 bytes ht hi hz hsize hby hzs (by decide) v n cs hs hown ad 0 cap [] hx rfl (by intro j u hj; simp at hj) (by intro u hu; cases hu) h63 hbytes hbase (fun v' w' q1 q2 _ => h v' w' (by simpa using q1) q2)
  · refine wp_append_own w s x t ho base e i z 1 bytes ht hi hz hsize hby hzs (by decide) v n cs hs hown ⟨b, off, none⟩ ys.length cap (ys.map (Value.int k)) hx (by simp) ?_ (ints_cells _) h63 hbytes hbase (fun v' w' q1 q2 _ => h v' w' q1 q2)
    intro j u hj
    have hjl : j < ys.length := by
      have := (List.getElem?_eq_some_iff.1 hj).1
      simpa using this
    rw [Go.WideShapes.add_plain, hc j hjl]
    simp [List.getD, hjl] at hj ⊢
    exact hj

set_option maxRecDepth 100000 in
theorem splits_long (v1 v2 : Value) (l m : List Int) (i : Int) (w : World) (h1 : Ints .i32 w v1 l) (h2 : Ints .i32 w v2 m) (hl : 1000 < l.length ∨ 1000 < m.length) :
    Calls Try.prog 4 #[v1, v2, .int .i64 i] w fun e w' => e = .returned (.bool true) ∧ Below w.heap.size w w' := by
  obtain ⟨a1, c1, rfl⟩ := h1.shape
  obtain ⟨a2, c2, rfl⟩ := h2.shape
  have l1 := h1.len
  have l2 := h2.len
  have HK := Lib.hid (fun w => known9_any w)
  clear h1 h2
  by_cases hl1 : 1000 < l.length
  · have g0 : (1000 : Int) < l.length := by omega
    clear hl hl1
    go_enter Try.func4, Try.ntmps4
    go_wp2_with (first
      | (go_at_call 9; refine (HK.out _).mono ?_; rintro e w99 ⟨rfl, b99⟩))
    go_ret
    exact ⟨rfl, b99⟩
  · have g0 : ¬ (1000 : Int) < l.length := by omega
    have g1 : (1000 : Int) < m.length := by omega
    clear hl hl1
    go_enter Try.func4, Try.ntmps4
    go_wp2_with (first
      | (go_at_call 9; refine (HK.out _).mono ?_; rintro e w99 ⟨rfl, b99⟩))
    go_ret
    exact ⟨rfl, b99⟩

set_option maxRecDepth 100000 in
theorem splits_none (v1 v2 : Value) (l m : List Int) (i : Int) (w : World) (h1 : Ints .i32 w v1 l) (h2 : Ints .i32 w v2 m) (hl : l.length ≤ 1000) (hm : m.length ≤ 1000) (he : ofE l ≠ 0 ∨ ofE m ≠ 0) :
    Calls Try.prog 4 #[v1, v2, .int .i64 i] w fun e w' => e = .returned (.bool true) ∧ Below w.heap.size w w' := by
  have H2 := Lib.hid h2
  have HO1 := Lib.hid (of_any v1 l w h1)
  have HO2 := Lib.hid (fun v w h => of_any v m w h)
  have LA := Lib.hid (len_ofL l)
  have LB := Lib.hid (len_ofL m)
  have HK := Lib.hid (fun w => known9_any w)
  obtain ⟨a1, c1, rfl⟩ := h1.shape
  obtain ⟨a2, c2, rfl⟩ := h2.shape
  unfold ofV cv at HO1 HO2
  have g0 : ¬ (1000 : Int) < l.length := by omega
  have g1 : ¬ (1000 : Int) < m.length := by omega
  obtain ⟨xa, hxa⟩ : ∃ xs, slots (ofL l) = xs := ⟨_, rfl⟩
  obtain ⟨xb, hxb⟩ : ∃ xs, slots (ofL m) = xs := ⟨_, rfl⟩
  obtain ⟨e, hee⟩ : ∃ e, ofE l = e := ⟨_, rfl⟩
  obtain ⟨f, hff⟩ : ∃ f, ofE m = f := ⟨_, rfl⟩
  rw [hxa, hee] at HO1
  rw [hxb, hff] at HO2
  rw [hxa] at LA
  rw [hxb] at LB
  rw [hee, hff] at he
  clear hxa hxb hee hff h1 h2
  obtain ⟨be, hbe⟩ : ∃ b, (e == 0) = b := ⟨_, rfl⟩
  obtain ⟨bf, hbf⟩ : ∃ b, (f == 0) = b := ⟨_, rfl⟩
  have hbe' : (e != 0) = !be := by simp [bne, hbe]
  have hbf' : (f != 0) = !bf := by simp [bne, hbf]
  have hor : be = false ∨ bf = false := by
    rcases he with h | h
    · left; rw [← hbe]; simp [h]
    · right; rw [← hbf]; simp [h]
  clear he
  cases be
  · clear hor
    go_enter Try.func4, Try.ntmps4
    go_wp2_with (first
      | (go_at_call 10; refine HO1.out.mono ?_; rintro e1 u0 ⟨rfl, b1⟩; have K0 := Lib.hid ((Vs.none w).below b1); clear b1 HO1; refine Hid.out ?_))
    refine Lib.hid ?_
    go_wp2_with (first
      | (refine wpList_store_row rfl 27 (.tmp 7) (.tmp 28) rfl u0.heap.size (row xa) rfl rfl _ _ (rowAt_new _ _ zero32) (info_chunk32 _ LA.out) (by rw [row_size, row_size, LA.out]; rfl) (row_one _) ?_; refine with_worldL (Vs w [(u0.heap.size, xa)]) (K0.out.new xa) fun W hW => ?_; have K1 := Lib.hid hW; clear hW K0; refine Hid.out ?_))
    refine Lib.hid ?_
    go_wp2_with (first
      | (go_at_call 10; refine (HO2.out _ _ (H2.out.below K1.out.bel)).mono ?_; rintro e1 u1 ⟨rfl, b1⟩; have K2 := Lib.hid (K1.out.below b1); clear b1 HO2 K1; refine Hid.out ?_))
    refine Lib.hid ?_
    go_wp2_with (first
      | (refine wpList_store_row rfl 27 (.tmp 9) (.tmp 33) rfl u1.heap.size (row xb) rfl rfl _ _ (rowAt_new _ _ zero32) (info_chunk32 _ LB.out) (by rw [row_size, row_size, LB.out]; rfl) (row_one _) ?_; refine with_worldL (Vs w [(u1.heap.size, xb), (u0.heap.size, xa)]) (K2.out.new xb) fun W hW => ?_; have K3 := Lib.hid hW; clear hW K2; refine Hid.out ?_))
    refine Lib.hid ?_
    go_wp2_with (first
      | (go_at_call 9; refine (HK.out _).mono ?_; rintro e w99 ⟨rfl, b99⟩))
    go_ret
    exact ⟨rfl, (K3.out.below b99).bel⟩
  · obtain rfl : bf = false := by rcases hor with h | h; cases h; exact h
    clear hor
    go_enter Try.func4, Try.ntmps4
    go_wp2_with (first
      | (go_at_call 10; refine HO1.out.mono ?_; rintro e1 u0 ⟨rfl, b1⟩; have K0 := Lib.hid ((Vs.none w).below b1); clear b1 HO1; refine Hid.out ?_))
    refine Lib.hid ?_
    go_wp2_with (first
      | (refine wpList_store_row rfl 27 (.tmp 7) (.tmp 28) rfl u0.heap.size (row xa) rfl rfl _ _ (rowAt_new _ _ zero32) (info_chunk32 _ LA.out) (by rw [row_size, row_size, LA.out]; rfl) (row_one _) ?_; refine with_worldL (Vs w [(u0.heap.size, xa)]) (K0.out.new xa) fun W hW => ?_; have K1 := Lib.hid hW; clear hW K0; refine Hid.out ?_))
    refine Lib.hid ?_
    go_wp2_with (first
      | (go_at_call 10; refine (HO2.out _ _ (H2.out.below K1.out.bel)).mono ?_; rintro e1 u1 ⟨rfl, b1⟩; have K2 := Lib.hid (K1.out.below b1); clear b1 HO2 K1; refine Hid.out ?_))
    refine Lib.hid ?_
    go_wp2_with (first
      | (refine wpList_store_row rfl 27 (.tmp 9) (.tmp 33) rfl u1.heap.size (row xb) rfl rfl _ _ (rowAt_new _ _ zero32) (info_chunk32 _ LB.out) (by rw [row_size, row_size, LB.out]; rfl) (row_one _) ?_; refine with_worldL (Vs w [(u1.heap.size, xb), (u0.heap.size, xa)]) (K2.out.new xb) fun W hW => ?_; have K3 := Lib.hid hW; clear hW K2; refine Hid.out ?_))
    refine Lib.hid ?_
    go_wp2_with (first
      | (go_at_call 9; refine (HK.out _).mono ?_; rintro e w99 ⟨rfl, b99⟩))
    go_ret
    exact ⟨rfl, (K3.out.below b99).bel⟩

set_option maxRecDepth 100000 in
set_option maxHeartbeats 4000000 in
theorem splits_neg_long (v1 v2 : Value) (l m : List Int) (i : Int) (w : World) (h1 : Ints .i32 w v1 l) (h2 : Ints .i32 w v2 m) (he : ofE l = 0) (hf : ofE m = 0) (hi : i < 0) (hfit : 32 < l.length + m.length) :
    Calls Try.prog 4 #[v1, v2, .int .i64 i] w fun e w' => e = .returned (.bool true) ∧ Below w.heap.size w w' := by
  obtain ⟨i0, ki, kz0, kz1, kz2⟩ := info_parts info32
  have cl := chunky_of he
  have cm := chunky_of hf
  have hl32 := cl.1
  have hm32 := cm.1
  have H1 := Lib.hid h1
  have H2 := Lib.hid h2
  have ho1 := of_any v1 l w h1
  have ho2 := fun v w h => of_any v m w h
  rw [ofV_ok he] at ho1
  rw [ofV_ok hf] at ho2
  have HO1 := Lib.hid ho1
  have HO2 := Lib.hid ho2
  have HSP := Lib.hid (fun w => split_any l cl i w)
  have LA := Lib.hid (slots_len cl.1)
  have LB := Lib.hid (slots_len cm.1)
  have LZ := Lib.hid zero32_len
  have HK := Lib.hid (fun w => known9_any w)
  have HIA := Lib.hid (fun v w h => is_any l cl v w h)
  have HIB := Lib.hid (fun v w h => is_any m cm v w h)
  have hqe : ∀ A : Array Value, A = row zero32 → ∀ w, (binOp .eql 27 (.agg A) (.agg (row zero32))).run Try.prog w = .ok (.bool true) w := by
    intro A hA w
    rw [hA, chunk_eql zero32 zero32 LZ.out LZ.out w]; rfl
  have hqn : ∀ A : Array Value, A = row zero32 → ∀ w, (binOp .neq 27 (.agg A) (.agg (row zero32))).run Try.prog w = .ok (.bool false) w := by
    intro A hA w
    rw [hA, chunk_neq zero32 zero32 LZ.out LZ.out w]; rfl
  simp only [row, zero32, List.replicate, List.map] at hqe hqn
  obtain ⟨a1, c1, rfl⟩ := h1.shape
  obtain ⟨a2, c2, rfl⟩ := h2.shape
  have g0 : ¬ (1000 : Int) < l.length := by omega
  have g1 : ¬ (1000 : Int) < m.length := by omega
  have g2 : decide (i < 0) = true := by rw [decide_eq_true_iff]; exact hi
  rw [show splA l i = [] by unfold splA; rw [if_neg (by omega)], show splB l i = [] by unfold splB; rw [if_neg (by omega)], show splE l i = 5 by unfold splE; rw [if_neg (by omega)]] at HSP
  have LYA := Lib.hid (slots_len chunky_nil.1)
  have LYB := Lib.hid (slots_len chunky_nil.1)
  unfold cv at HSP HIA HIB
  have hqa := hqn (row (slots [])) rfl
  obtain ⟨ya, hya⟩ : ∃ xs, slots [] = xs := ⟨_, rfl⟩
  rw [hya] at HSP LYA LYB hqa
  obtain ⟨yb, hyb⟩ : ∃ xs, ya = xs := ⟨_, rfl⟩
  have hqb := hqa
  have HSP2 : Hid (∀ w, Calls Try.prog 14 #[.agg (row (slots l)), .int .i64 i] w fun e w' => e = .returned (.tuple #[.agg (row ya), .agg (row yb), .int .i64 5]) ∧ Below w.heap.size w w') := Lib.hid (by rw [← hyb]; exact HSP.out)
  rw [hyb] at hqb LYB
  clear HSP
  have HSP := HSP2
  clear hya hyb HSP2
  have hj := fun w => join_long l m cl cm hfit w
  have LJ := Lib.hid zero32_len
  have g4 : (32 : Int) < l.length + m.length := by omega
  have hqj := hqe (row zero32) rfl
  obtain ⟨xj, hxj⟩ : ∃ xs, zero32 = xs := ⟨_, rfl⟩
  have HJ : Hid (∀ w, Calls Try.prog 15 #[.agg (row (slots l)), .agg (row (slots m))] w fun e w' => e = .returned (.tuple #[.agg (row xj), .int .i64 8]) ∧ Below w.heap.size w w') := Lib.hid (by rw [← hxj]; exact hj)
  rw [hxj] at LJ hqj
  clear hxj hj
  obtain ⟨xa, hxa⟩ : ∃ xs, slots l = xs := ⟨_, rfl⟩
  obtain ⟨xb, hxb⟩ : ∃ xs, slots m = xs := ⟨_, rfl⟩
  rw [hxa] at HO1 LA HSP HJ HIA
  rw [hxb] at HO2 LB HJ HIB
  clear hxa hxb h1 h2 ho1 ho2 cl cm he hf hqe hqn
  go_enter Try.func4, Try.ntmps4
  go_wp2_with (first
    | (go_at_call 10; refine HO1.out.mono ?_; rintro e1 u0 ⟨rfl, b1⟩; have K0 := Lib.hid ((Vs.none w).below b1); clear b1 HO1; refine Hid.out ?_))
  refine Lib.hid ?_
  go_wp2_with (first
    | (refine wpList_store_row rfl 27 (.tmp 7) (.tmp 28) rfl u0.heap.size (row xa) rfl rfl _ _ (rowAt_new _ _ zero32) (info_chunk32 _ LA.out) (by rw [row_size, row_size, LA.out]; rfl) (row_one _) ?_; refine with_worldL (Vs w [(u0.heap.size, xa)]) (K0.out.new xa) fun W hW => ?_; have K1 := Lib.hid hW; clear hW K0; refine Hid.out ?_))
  refine Lib.hid ?_
  go_wp2_with (first
    | (go_at_call 10; refine (HO2.out _ _ (H2.out.below K1.out.bel)).mono ?_; rintro e1 u1 ⟨rfl, b1⟩; have K2 := Lib.hid (K1.out.below b1); clear b1 HO2 K1; refine Hid.out ?_))
  refine Lib.hid ?_
  go_wp2_with (first
    | (refine wpList_store_row rfl 27 (.tmp 9) (.tmp 33) rfl u1.heap.size (row xb) rfl rfl _ _ (rowAt_new _ _ zero32) (info_chunk32 _ LB.out) (by rw [row_size, row_size, LB.out]; rfl) (row_one _) ?_; refine with_worldL (Vs w [(u1.heap.size, xb), (u0.heap.size, xa)]) (K2.out.new xb) fun W hW => ?_; have K3 := Lib.hid hW; clear hW K2; refine Hid.out ?_))
  refine Lib.hid ?_
  go_wp2_with (first
    | (refine wpList_load_roww 27 (.tmp 7) rfl _ rfl (by rfl) _ _ _ _ (K3.out.at_ (u0.heap.size, xa) (by simp)) Try.underlying27 rfl (info_chunk32 _ LA.out) ?_)
    | (go_at_call 14; refine (HSP.out _).mono ?_; rintro e2 u2 ⟨rfl, b3⟩; have K4 := Lib.hid (K3.out.below b3); have KF := Lib.hid (two_rows (W := u2) ya); clear b3 K3; refine Hid.out ?_))
  refine Lib.hid ?_
  go_wp2_with (first
    | (refine wpList_store_row rfl 27 (.tmp 11) (.tmp 46) rfl u2.heap.size (row ya) rfl rfl _ _ KF.out.1 (info_chunk32 _ LYA.out) (by rw [row_size, row_size, LYA.out]; rfl) (row_one _) ?_)
    | (refine wpList_store_row rfl 27 (.tmp 12) (.tmp 47) rfl (u2.heap.size + 1) (row yb) rfl rfl _ _ KF.out.2 (info_chunk32 _ LYB.out) (by rw [row_size, row_size, LYB.out]; rfl) (row_one _) ?_; refine with_worldL (Vs w [(u2.heap.size, ya), (u2.heap.size + 1, yb), (u1.heap.size, xb), (u0.heap.size, xa)]) (K4.out.two ya yb) fun W4 hW => ?_; have K5 := Lib.hid hW; clear hW K4 KF; refine Hid.out ?_))
  refine Lib.hid ?_
  have K6 := K5
  clear K5
  go_wp2_with (first
    | (refine wpList_load_roww 27 (.tmp 11) rfl _ rfl (by rfl) _ _ _ _ (K6.out.at_ (u2.heap.size, ya) (by simp)) Try.underlying27 rfl (info_chunk32 _ LYA.out) ?_)
    | (refine wpList_load_roww 27 (.tmp 12) rfl _ rfl (by rfl) _ _ _ _ (K6.out.at_ (u2.heap.size + 1, yb) (by simp)) Try.underlying27 rfl (info_chunk32 _ LYB.out) ?_)
    | (refine wpList_load_roww 27 (.tmp 7) rfl _ rfl (by rfl) _ _ _ _ (K6.out.at_ (u0.heap.size, xa) (by simp)) Try.underlying27 rfl (info_chunk32 _ LA.out) ?_)
    | (refine wpList_load_roww 27 (.tmp 9) rfl _ rfl (by rfl) _ _ _ _ (K6.out.at_ (u1.heap.size, xb) (by simp)) Try.underlying27 rfl (info_chunk32 _ LB.out) ?_)
    | (go_at_call 15; refine (HJ.out _).mono ?_; rintro e5 u3 ⟨rfl, b5⟩; have K7 := Lib.hid (K6.out.below b5); clear b5 K6; refine Hid.out ?_))
  refine Lib.hid ?_
  go_wp2_with (first
    | (refine wpList_store_row rfl 27 (.tmp 14) (.tmp 91) rfl u3.heap.size (row xj) rfl rfl _ _ (rowAt_new _ _ zero32) (info_chunk32 _ LJ.out) (by rw [row_size, row_size, LJ.out]; rfl) (row_one _) ?_; refine with_worldL (Vs w [(u3.heap.size, xj), (u2.heap.size, ya), (u2.heap.size + 1, yb), (u1.heap.size, xb), (u0.heap.size, xa)]) (K7.out.new xj) fun W8 hW => ?_; have K8 := Lib.hid hW; clear hW K7; refine Hid.out ?_))
  refine Lib.hid ?_
  go_wp2_with (first
    | (refine wpList_load_roww 27 (.tmp 14) rfl _ rfl (by rfl) _ _ _ _ (K8.out.at_ (u3.heap.size, xj) (by simp)) Try.underlying27 rfl (info_chunk32 _ LJ.out) ?_)
    | (refine wpList_load_roww 27 (.tmp 7) rfl _ rfl (by rfl) _ _ _ _ (K8.out.at_ (u0.heap.size, xa) (by simp)) Try.underlying27 rfl (info_chunk32 _ LA.out) ?_)
    | (go_at_call 13; with_reducible (refine (HIA.out (.slice a1 l.length c1) _ (H1.out.below K8.out.bel)).mono ?_); rintro e6 w6 ⟨rfl, b6⟩; have K9 := Lib.hid (K8.out.below b6); clear b6 K8)
    | (refine wpList_load_roww 27 (.tmp 9) rfl _ rfl (by rfl) _ _ _ _ (K9.out.at_ (u1.heap.size, xb) (by simp)) Try.underlying27 rfl (info_chunk32 _ LB.out) ?_)
    | (go_at_call 13; with_reducible (refine (HIB.out (.slice a2 m.length c2) _ (H2.out.below K9.out.bel)).mono ?_); rintro e7 w7 ⟨rfl, b7⟩; have K10 := Lib.hid (K9.out.below b7); clear b7 K9)
    | (go_at_call 9; refine (HK.out _).mono ?_; rintro e w99 ⟨rfl, b99⟩))
  go_ret
  exact ⟨rfl, (K10.out.below b99).bel⟩

set_option maxRecDepth 100000 in
set_option maxHeartbeats 4000000 in
theorem splits_past_long (v1 v2 : Value) (l m : List Int) (i : Int) (w : World) (h1 : Ints .i32 w v1 l) (h2 : Ints .i32 w v2 m) (he : ofE l = 0) (hf : ofE m = 0) (hi : (l.length : Int) < i) (hfit : 32 < l.length + m.length) :
    Calls Try.prog 4 #[v1, v2, .int .i64 i] w fun e w' => e = .returned (.bool true) ∧ Below w.heap.size w w' := by
  obtain ⟨i0, ki, kz0, kz1, kz2⟩ := info_parts info32
  have cl := chunky_of he
  have cm := chunky_of hf
  have hl32 := cl.1
  have hm32 := cm.1
  have H1 := Lib.hid h1
  have H2 := Lib.hid h2
  have ho1 := of_any v1 l w h1
  have ho2 := fun v w h => of_any v m w h
  rw [ofV_ok he] at ho1
  rw [ofV_ok hf] at ho2
  have HO1 := Lib.hid ho1
  have HO2 := Lib.hid ho2
  have HSP := Lib.hid (fun w => split_any l cl i w)
  have LA := Lib.hid (slots_len cl.1)
  have LB := Lib.hid (slots_len cm.1)
  have LZ := Lib.hid zero32_len
  have HK := Lib.hid (fun w => known9_any w)
  have HIA := Lib.hid (fun v w h => is_any l cl v w h)
  have HIB := Lib.hid (fun v w h => is_any m cm v w h)
  have hqe : ∀ A : Array Value, A = row zero32 → ∀ w, (binOp .eql 27 (.agg A) (.agg (row zero32))).run Try.prog w = .ok (.bool true) w := by
    intro A hA w
    rw [hA, chunk_eql zero32 zero32 LZ.out LZ.out w]; rfl
  have hqn : ∀ A : Array Value, A = row zero32 → ∀ w, (binOp .neq 27 (.agg A) (.agg (row zero32))).run Try.prog w = .ok (.bool false) w := by
    intro A hA w
    rw [hA, chunk_neq zero32 zero32 LZ.out LZ.out w]; rfl
  simp only [row, zero32, List.replicate, List.map] at hqe hqn
  obtain ⟨a1, c1, rfl⟩ := h1.shape
  obtain ⟨a2, c2, rfl⟩ := h2.shape
  have g0 : ¬ (1000 : Int) < l.length := by omega
  have g1 : ¬ (1000 : Int) < m.length := by omega
  have g2 : decide (i < 0) = false := by rw [decide_eq_false_iff_not]; omega
  have g3 : decide ((l.length : Int) < i) = true := by rw [decide_eq_true_iff]; exact hi
  rw [show splA l i = [] by unfold splA; rw [if_neg (by omega)], show splB l i = [] by unfold splB; rw [if_neg (by omega)], show splE l i = 5 by unfold splE; rw [if_neg (by omega)]] at HSP
  have LYA := Lib.hid (slots_len chunky_nil.1)
  have LYB := Lib.hid (slots_len chunky_nil.1)
  unfold cv at HSP HIA HIB
  have hqa := hqn (row (slots [])) rfl
  obtain ⟨ya, hya⟩ : ∃ xs, slots [] = xs := ⟨_, rfl⟩
  rw [hya] at HSP LYA LYB hqa
  obtain ⟨yb, hyb⟩ : ∃ xs, ya = xs := ⟨_, rfl⟩
  have hqb := hqa
  have HSP2 : Hid (∀ w, Calls Try.prog 14 #[.agg (row (slots l)), .int .i64 i] w fun e w' => e = .returned (.tuple #[.agg (row ya), .agg (row yb), .int .i64 5]) ∧ Below w.heap.size w w') := Lib.hid (by rw [← hyb]; exact HSP.out)
  rw [hyb] at hqb LYB
  clear HSP
  have HSP := HSP2
  clear hya hyb HSP2
  have hj := fun w => join_long l m cl cm hfit w
  have LJ := Lib.hid zero32_len
  have g4 : (32 : Int) < l.length + m.length := by omega
  have hqj := hqe (row zero32) rfl
  obtain ⟨xj, hxj⟩ : ∃ xs, zero32 = xs := ⟨_, rfl⟩
  have HJ : Hid (∀ w, Calls Try.prog 15 #[.agg (row (slots l)), .agg (row (slots m))] w fun e w' => e = .returned (.tuple #[.agg (row xj), .int .i64 8]) ∧ Below w.heap.size w w') := Lib.hid (by rw [← hxj]; exact hj)
  rw [hxj] at LJ hqj
  clear hxj hj
  obtain ⟨xa, hxa⟩ : ∃ xs, slots l = xs := ⟨_, rfl⟩
  obtain ⟨xb, hxb⟩ : ∃ xs, slots m = xs := ⟨_, rfl⟩
  rw [hxa] at HO1 LA HSP HJ HIA
  rw [hxb] at HO2 LB HJ HIB
  clear hxa hxb h1 h2 ho1 ho2 cl cm he hf hqe hqn
  go_enter Try.func4, Try.ntmps4
  go_wp2_with (first
    | (go_at_call 10; refine HO1.out.mono ?_; rintro e1 u0 ⟨rfl, b1⟩; have K0 := Lib.hid ((Vs.none w).below b1); clear b1 HO1; refine Hid.out ?_))
  refine Lib.hid ?_
  go_wp2_with (first
    | (refine wpList_store_row rfl 27 (.tmp 7) (.tmp 28) rfl u0.heap.size (row xa) rfl rfl _ _ (rowAt_new _ _ zero32) (info_chunk32 _ LA.out) (by rw [row_size, row_size, LA.out]; rfl) (row_one _) ?_; refine with_worldL (Vs w [(u0.heap.size, xa)]) (K0.out.new xa) fun W hW => ?_; have K1 := Lib.hid hW; clear hW K0; refine Hid.out ?_))
  refine Lib.hid ?_
  go_wp2_with (first
    | (go_at_call 10; refine (HO2.out _ _ (H2.out.below K1.out.bel)).mono ?_; rintro e1 u1 ⟨rfl, b1⟩; have K2 := Lib.hid (K1.out.below b1); clear b1 HO2 K1; refine Hid.out ?_))
  refine Lib.hid ?_
  go_wp2_with (first
    | (refine wpList_store_row rfl 27 (.tmp 9) (.tmp 33) rfl u1.heap.size (row xb) rfl rfl _ _ (rowAt_new _ _ zero32) (info_chunk32 _ LB.out) (by rw [row_size, row_size, LB.out]; rfl) (row_one _) ?_; refine with_worldL (Vs w [(u1.heap.size, xb), (u0.heap.size, xa)]) (K2.out.new xb) fun W hW => ?_; have K3 := Lib.hid hW; clear hW K2; refine Hid.out ?_))
  refine Lib.hid ?_
  go_wp2_with (first
    | (refine wpList_load_roww 27 (.tmp 7) rfl _ rfl (by rfl) _ _ _ _ (K3.out.at_ (u0.heap.size, xa) (by simp)) Try.underlying27 rfl (info_chunk32 _ LA.out) ?_)
    | (go_at_call 14; refine (HSP.out _).mono ?_; rintro e2 u2 ⟨rfl, b3⟩; have K4 := Lib.hid (K3.out.below b3); have KF := Lib.hid (two_rows (W := u2) ya); clear b3 K3; refine Hid.out ?_))
  refine Lib.hid ?_
  go_wp2_with (first
    | (refine wpList_store_row rfl 27 (.tmp 11) (.tmp 46) rfl u2.heap.size (row ya) rfl rfl _ _ KF.out.1 (info_chunk32 _ LYA.out) (by rw [row_size, row_size, LYA.out]; rfl) (row_one _) ?_)
    | (refine wpList_store_row rfl 27 (.tmp 12) (.tmp 47) rfl (u2.heap.size + 1) (row yb) rfl rfl _ _ KF.out.2 (info_chunk32 _ LYB.out) (by rw [row_size, row_size, LYB.out]; rfl) (row_one _) ?_; refine with_worldL (Vs w [(u2.heap.size, ya), (u2.heap.size + 1, yb), (u1.heap.size, xb), (u0.heap.size, xa)]) (K4.out.two ya yb) fun W4 hW => ?_; have K5 := Lib.hid hW; clear hW K4 KF; refine Hid.out ?_))
  refine Lib.hid ?_
  have K6 := K5
  clear K5
  go_wp2_with (first
    | (refine wpList_load_roww 27 (.tmp 11) rfl _ rfl (by rfl) _ _ _ _ (K6.out.at_ (u2.heap.size, ya) (by simp)) Try.underlying27 rfl (info_chunk32 _ LYA.out) ?_)
    | (refine wpList_load_roww 27 (.tmp 12) rfl _ rfl (by rfl) _ _ _ _ (K6.out.at_ (u2.heap.size + 1, yb) (by simp)) Try.underlying27 rfl (info_chunk32 _ LYB.out) ?_)
    | (refine wpList_load_roww 27 (.tmp 7) rfl _ rfl (by rfl) _ _ _ _ (K6.out.at_ (u0.heap.size, xa) (by simp)) Try.underlying27 rfl (info_chunk32 _ LA.out) ?_)
    | (refine wpList_load_roww 27 (.tmp 9) rfl _ rfl (by rfl) _ _ _ _ (K6.out.at_ (u1.heap.size, xb) (by simp)) Try.underlying27 rfl (info_chunk32 _ LB.out) ?_)
    | (go_at_call 15; refine (HJ.out _).mono ?_; rintro e5 u3 ⟨rfl, b5⟩; have K7 := Lib.hid (K6.out.below b5); clear b5 K6; refine Hid.out ?_))
  refine Lib.hid ?_
  go_wp2_with (first
    | (refine wpList_store_row rfl 27 (.tmp 14) (.tmp 91) rfl u3.heap.size (row xj) rfl rfl _ _ (rowAt_new _ _ zero32) (info_chunk32 _ LJ.out) (by rw [row_size, row_size, LJ.out]; rfl) (row_one _) ?_; refine with_worldL (Vs w [(u3.heap.size, xj), (u2.heap.size, ya), (u2.heap.size + 1, yb), (u1.heap.size, xb), (u0.heap.size, xa)]) (K7.out.new xj) fun W8 hW => ?_; have K8 := Lib.hid hW; clear hW K7; refine Hid.out ?_))
  refine Lib.hid ?_
  go_wp2_with (first
    | (refine wpList_load_roww 27 (.tmp 14) rfl _ rfl (by rfl) _ _ _ _ (K8.out.at_ (u3.heap.size, xj) (by simp)) Try.underlying27 rfl (info_chunk32 _ LJ.out) ?_)
    | (refine wpList_load_roww 27 (.tmp 7) rfl _ rfl (by rfl) _ _ _ _ (K8.out.at_ (u0.heap.size, xa) (by simp)) Try.underlying27 rfl (info_chunk32 _ LA.out) ?_)
    | (go_at_call 13; with_reducible (refine (HIA.out (.slice a1 l.length c1) _ (H1.out.below K8.out.bel)).mono ?_); rintro e6 w6 ⟨rfl, b6⟩; have K9 := Lib.hid (K8.out.below b6); clear b6 K8)
    | (refine wpList_load_roww 27 (.tmp 9) rfl _ rfl (by rfl) _ _ _ _ (K9.out.at_ (u1.heap.size, xb) (by simp)) Try.underlying27 rfl (info_chunk32 _ LB.out) ?_)
    | (go_at_call 13; with_reducible (refine (HIB.out (.slice a2 m.length c2) _ (H2.out.below K9.out.bel)).mono ?_); rintro e7 w7 ⟨rfl, b7⟩; have K10 := Lib.hid (K9.out.below b7); clear b7 K9)
    | (go_at_call 9; refine (HK.out _).mono ?_; rintro e w99 ⟨rfl, b99⟩))
  go_ret
  exact ⟨rfl, (K10.out.below b99).bel⟩

set_option maxRecDepth 100000 in
set_option maxHeartbeats 4000000 in
theorem splits_neg_fit (v1 v2 : Value) (l m : List Int) (i : Int) (w : World) (h1 : Ints .i32 w v1 l) (h2 : Ints .i32 w v2 m) (he : ofE l = 0) (hf : ofE m = 0) (hi : i < 0) (hfit : l.length + m.length ≤ 32) :
    Calls Try.prog 4 #[v1, v2, .int .i64 i] w fun e w' => e = .returned (.bool true) ∧ Below w.heap.size w w' := by
  obtain ⟨i0, ki, kz0, kz1, kz2⟩ := info_parts info32
  have cl := chunky_of he
  have cm := chunky_of hf
  have hl32 := cl.1
  have hm32 := cm.1
  have H1 := Lib.hid h1
  have H2 := Lib.hid h2
  have ho1 := of_any v1 l w h1
  have ho2 := fun v w h => of_any v m w h
  rw [ofV_ok he] at ho1
  rw [ofV_ok hf] at ho2
  have HO1 := Lib.hid ho1
  have HO2 := Lib.hid ho2
  have HSP := Lib.hid (fun w => split_any l cl i w)
  have LA := Lib.hid (slots_len cl.1)
  have LB := Lib.hid (slots_len cm.1)
  have LZ := Lib.hid zero32_len
  have HK := Lib.hid (fun w => known9_any w)
  have HIA := Lib.hid (fun v w h => is_any l cl v w h)
  have HIB := Lib.hid (fun v w h => is_any m cm v w h)
  have hqe : ∀ A : Array Value, A = row zero32 → ∀ w, (binOp .eql 27 (.agg A) (.agg (row zero32))).run Try.prog w = .ok (.bool true) w := by
    intro A hA w
    rw [hA, chunk_eql zero32 zero32 LZ.out LZ.out w]; rfl
  have hqn : ∀ A : Array Value, A = row zero32 → ∀ w, (binOp .neq 27 (.agg A) (.agg (row zero32))).run Try.prog w = .ok (.bool false) w := by
    intro A hA w
    rw [hA, chunk_neq zero32 zero32 LZ.out LZ.out w]; rfl
  simp only [row, zero32, List.replicate, List.map] at hqe hqn
  obtain ⟨a1, c1, rfl⟩ := h1.shape
  obtain ⟨a2, c2, rfl⟩ := h2.shape
  have g0 : ¬ (1000 : Int) < l.length := by omega
  have g1 : ¬ (1000 : Int) < m.length := by omega
  have g2 : decide (i < 0) = true := by rw [decide_eq_true_iff]; exact hi
  rw [show splA l i = [] by unfold splA; rw [if_neg (by omega)], show splB l i = [] by unfold splB; rw [if_neg (by omega)], show splE l i = 5 by unfold splE; rw [if_neg (by omega)]] at HSP
  have LYA := Lib.hid (slots_len chunky_nil.1)
  have LYB := Lib.hid (slots_len chunky_nil.1)
  unfold cv at HSP HIA HIB
  have hqa := hqn (row (slots [])) rfl
  obtain ⟨ya, hya⟩ : ∃ xs, slots [] = xs := ⟨_, rfl⟩
  rw [hya] at HSP LYA LYB hqa
  obtain ⟨yb, hyb⟩ : ∃ xs, ya = xs := ⟨_, rfl⟩
  have hqb := hqa
  have HSP2 : Hid (∀ w, Calls Try.prog 14 #[.agg (row (slots l)), .int .i64 i] w fun e w' => e = .returned (.tuple #[.agg (row ya), .agg (row yb), .int .i64 5]) ∧ Below w.heap.size w w') := Lib.hid (by rw [← hyb]; exact HSP.out)
  rw [hyb] at hqb LYB
  clear HSP
  have HSP := HSP2
  clear hya hyb HSP2
  have call := cl.app cm hfit
  have HJ := Lib.hid (fun w => join_fit l m cl cm hfit w)
  have HIJ := Lib.hid (fun v w h => is_any (l ++ m) call v w h)
  have LJ := Lib.hid (slots_len call.1)
  have g4 : ¬ (32 : Int) < l.length + m.length := by omega
  unfold cv at HJ HIJ
  obtain ⟨xj, hxj⟩ : ∃ xs, slots (l ++ m) = xs := ⟨_, rfl⟩
  rw [hxj] at HJ HIJ LJ
  clear hxj call
  obtain ⟨xa, hxa⟩ : ∃ xs, slots l = xs := ⟨_, rfl⟩
  obtain ⟨xb, hxb⟩ : ∃ xs, slots m = xs := ⟨_, rfl⟩
  rw [hxa] at HO1 LA HSP HJ HIA
  rw [hxb] at HO2 LB HJ HIB
  clear hxa hxb h1 h2 ho1 ho2 cl cm he hf hqe hqn
  go_enter Try.func4, Try.ntmps4
  go_wp2_with (first
    | (go_at_call 10; refine HO1.out.mono ?_; rintro e1 u0 ⟨rfl, b1⟩; have K0 := Lib.hid ((Vs.none w).below b1); clear b1 HO1; refine Hid.out ?_))
  refine Lib.hid ?_
  go_wp2_with (first
    | (refine wpList_store_row rfl 27 (.tmp 7) (.tmp 28) rfl u0.heap.size (row xa) rfl rfl _ _ (rowAt_new _ _ zero32) (info_chunk32 _ LA.out) (by rw [row_size, row_size, LA.out]; rfl) (row_one _) ?_; refine with_worldL (Vs w [(u0.heap.size, xa)]) (K0.out.new xa) fun W hW => ?_; have K1 := Lib.hid hW; clear hW K0; refine Hid.out ?_))
  refine Lib.hid ?_
  go_wp2_with (first
    | (go_at_call 10; refine (HO2.out _ _ (H2.out.below K1.out.bel)).mono ?_; rintro e1 u1 ⟨rfl, b1⟩; have K2 := Lib.hid (K1.out.below b1); clear b1 HO2 K1; refine Hid.out ?_))
  refine Lib.hid ?_
  go_wp2_with (first
    | (refine wpList_store_row rfl 27 (.tmp 9) (.tmp 33) rfl u1.heap.size (row xb) rfl rfl _ _ (rowAt_new _ _ zero32) (info_chunk32 _ LB.out) (by rw [row_size, row_size, LB.out]; rfl) (row_one _) ?_; refine with_worldL (Vs w [(u1.heap.size, xb), (u0.heap.size, xa)]) (K2.out.new xb) fun W hW => ?_; have K3 := Lib.hid hW; clear hW K2; refine Hid.out ?_))
  refine Lib.hid ?_
  go_wp2_with (first
    | (refine wpList_load_roww 27 (.tmp 7) rfl _ rfl (by rfl) _ _ _ _ (K3.out.at_ (u0.heap.size, xa) (by simp)) Try.underlying27 rfl (info_chunk32 _ LA.out) ?_)
    | (go_at_call 14; refine (HSP.out _).mono ?_; rintro e2 u2 ⟨rfl, b3⟩; have K4 := Lib.hid (K3.out.below b3); have KF := Lib.hid (two_rows (W := u2) ya); clear b3 K3; refine Hid.out ?_))
  refine Lib.hid ?_
  go_wp2_with (first
    | (refine wpList_store_row rfl 27 (.tmp 11) (.tmp 46) rfl u2.heap.size (row ya) rfl rfl _ _ KF.out.1 (info_chunk32 _ LYA.out) (by rw [row_size, row_size, LYA.out]; rfl) (row_one _) ?_)
    | (refine wpList_store_row rfl 27 (.tmp 12) (.tmp 47) rfl (u2.heap.size + 1) (row yb) rfl rfl _ _ KF.out.2 (info_chunk32 _ LYB.out) (by rw [row_size, row_size, LYB.out]; rfl) (row_one _) ?_; refine with_worldL (Vs w [(u2.heap.size, ya), (u2.heap.size + 1, yb), (u1.heap.size, xb), (u0.heap.size, xa)]) (K4.out.two ya yb) fun W4 hW => ?_; have K5 := Lib.hid hW; clear hW K4 KF; refine Hid.out ?_))
  refine Lib.hid ?_
  have K6 := K5
  clear K5
  go_wp2_with (first
    | (refine wpList_load_roww 27 (.tmp 11) rfl _ rfl (by rfl) _ _ _ _ (K6.out.at_ (u2.heap.size, ya) (by simp)) Try.underlying27 rfl (info_chunk32 _ LYA.out) ?_)
    | (refine wpList_load_roww 27 (.tmp 12) rfl _ rfl (by rfl) _ _ _ _ (K6.out.at_ (u2.heap.size + 1, yb) (by simp)) Try.underlying27 rfl (info_chunk32 _ LYB.out) ?_)
    | (refine wpList_load_roww 27 (.tmp 7) rfl _ rfl (by rfl) _ _ _ _ (K6.out.at_ (u0.heap.size, xa) (by simp)) Try.underlying27 rfl (info_chunk32 _ LA.out) ?_)
    | (refine wpList_load_roww 27 (.tmp 9) rfl _ rfl (by rfl) _ _ _ _ (K6.out.at_ (u1.heap.size, xb) (by simp)) Try.underlying27 rfl (info_chunk32 _ LB.out) ?_)
    | (go_at_call 15; refine (HJ.out _).mono ?_; rintro e5 u3 ⟨rfl, b5⟩; have K7 := Lib.hid (K6.out.below b5); clear b5 K6; refine Hid.out ?_))
  refine Lib.hid ?_
  go_wp2_with (first
    | (refine wpList_store_row rfl 27 (.tmp 14) (.tmp 91) rfl u3.heap.size (row xj) rfl rfl _ _ (rowAt_new _ _ zero32) (info_chunk32 _ LJ.out) (by rw [row_size, row_size, LJ.out]; rfl) (row_one _) ?_; refine with_worldL (Vs w [(u3.heap.size, xj), (u2.heap.size, ya), (u2.heap.size + 1, yb), (u1.heap.size, xb), (u0.heap.size, xa)]) (K7.out.new xj) fun W8 hW => ?_; have K8 := Lib.hid hW; clear hW K7; refine Hid.out ?_))
  refine Lib.hid ?_
  go_wp2
  have Q0 := Lib.hid (K8.out.below (below_drew _))
  refine h_start (S := Vs w [(u3.heap.size, xj), (u2.heap.size, ya), (u2.heap.size + 1, yb), (u1.heap.size, xb), (u0.heap.size, xa)]) (by kernel_rfl) ?_
  refine h_val (i := 0) (v := .int .i64 0) rfl (by kernel_rfl) (by kernel_rfl) (by kernel_rfl) (fun _ _ _ h => h) (by rfl) (fun w9 hS => ?_) Q0.out ?_
  · clear hS
    go_simp
  go_frame
  refine h_val (i := 1) (v := .bool true) rfl (by kernel_rfl) (by kernel_rfl) (by kernel_rfl) (fun _ _ _ h => h) (by rfl) (fun w9 hS => ?_) Q0.out ?_
  · clear hS
    go_simp
  go_frame
  refine h_val (i := 2) (v := .bool true) rfl (by kernel_rfl) (by kernel_rfl) (by kernel_rfl) (fun _ _ _ h => h) (by rfl) (fun w9 hS => ?_) Q0.out ?_
  · clear hS
    go_simp
  go_frame
  refine h_val (i := 3) (v := .agg (row xj)) rfl (by kernel_rfl) (by kernel_rfl) (by kernel_rfl) (fun _ _ _ h => h) (by rfl) (fun w9 hS => x_load 27 (.tmp 14) rfl _ rfl _ _ _ _ (hS.at_ (u3.heap.size, xj) (by simp)) Try.underlying27 rfl (info_chunk32 _ LJ.out)) Q0.out ?_
  go_frame
  refine h_val (i := 5) (v := .slice a1 l.length c1) rfl (by kernel_rfl) (by kernel_rfl) (by kernel_rfl) (fun _ _ _ h => h) (by rfl) (fun w9 hS => ?_) Q0.out ?_
  · clear hS
    go_simp
  go_frame
  refine h_val (i := 7) (v := .slice a2 m.length c2) rfl (by kernel_rfl) (by kernel_rfl) (by kernel_rfl) (fun _ _ _ h => h) (by rfl) (fun w9 hS => ?_) Q0.out ?_
  · clear hS
    go_simp
  go_frame
  refine h_step (i := 4) rfl (by kernel_rfl) (by rfl) (fun K hK => ?_)
  go_simp
  refine hK _ _ (Q0.out.below ((Below.refl _ _).alloc (Nat.le_refl _) _)) ?_
  clear hK K
  refine h_step (i := 6) rfl (by kernel_rfl) (by rfl) (fun K hK => ?_)
  refine wp_append_ints (.tmp 123) (.tmp 124) 22 rfl W8.drew.heap.size 21 i0 (.int .i32 0) 4 Try.underlying22 ki kz0 kz1 kz2 rfl _ 0 [] rfl (owns_empty W8.drew 21) _ .i32 l rfl (H1.out.below (Q0.out.below ((Below.refl _ _).alloc (Nat.le_refl _) _)).bel) (by unfold maxLen; omega) (by omega) (by simp) ?_
  intro v1 w1 o1 g1
  have D1 := Lib.hid (((Below.refl W8.drew.heap.size W8.drew).alloc (Nat.le_refl _) (.cells #[] 21)).grown g1 (by simp) (fun k hk => ((owns_empty W8.drew 21).lt k hk).1))
  have A1 := Lib.hid (show w1.ownsRow W8.drew.heap.size 21 1 v1 l.length (l.map (Value.int .i32)) by simpa using o1)
  have Q1 := Lib.hid (Q0.out.below D1.out)
  refine hK _ _ Q1.out ?_
  clear hK K o1 g1
  go_frame
  refine h_step (i := 8) rfl (by kernel_rfl) (by rfl) (fun K hK => ?_)
  refine wp_append_ints (.tmp 125) (.tmp 126) 22 rfl W8.drew.heap.size 21 i0 (.int .i32 0) 4 Try.underlying22 ki kz0 kz1 kz2 rfl _ l.length _ rfl A1.out _ .i32 m rfl (H2.out.below Q1.out.bel) (by unfold maxLen; omega) (by omega) D1.out.size ?_
  intro v2 w2 o2 g2
  have D2 := Lib.hid (D1.out.grown g2 D1.out.size (fun k hk => (A1.out.lt k hk).1))
  have A2 := Lib.hid (show Ints .i32 w2 v2 (l ++ m) from ints_of_owns (base := W8.drew.heap.size) (e := 21) (by simpa using o2))
  have Q2 := Lib.hid (Q0.out.below D2.out)
  refine hK _ _ Q2.out ?_
  clear hK K o2 g2 Q1 A1 D1 D2 Q0
  go_frame
  refine h_call (i := 9) (f := 13) (args := #[.agg (row xj), v2]) rfl (by kernel_rfl) (by rfl) (by go_simp) ?_
  refine (HIJ.out v2 _ A2.out).mono ?_
  rintro e9 w9 ⟨rfl, b9⟩
  have Q3 := Lib.hid (Q2.out.below b9)
  refine ⟨_, rfl, Q3.out, ?_⟩
  clear b9 Q2 A2
  go_frame
  refine h_val (i := 10) (v := .bool true) rfl (by kernel_rfl) (by kernel_rfl) (by kernel_rfl) (fun _ _ _ h => h) (by rfl) (fun w9 hS => ?_) Q3.out ?_
  · clear hS
    go_simp
  go_frame
  refine h_val (i := 11) (v := .bool true) rfl (by kernel_rfl) (by kernel_rfl) (by kernel_rfl) (fun _ _ _ h => h) (by rfl) (fun w9 hS => ?_) Q3.out ?_
  · clear hS
    go_simp
  go_frame
  refine h_val (i := 12) (v := .agg (row xa)) rfl (by kernel_rfl) (by kernel_rfl) (by kernel_rfl) (fun _ _ _ h => h) (by rfl) (fun w9 hS => x_load 27 (.tmp 7) rfl _ rfl _ _ _ _ (hS.at_ (u0.heap.size, xa) (by simp)) Try.underlying27 rfl (info_chunk32 _ LA.out)) Q3.out ?_
  go_frame
  refine h_val (i := 13) (v := .slice a1 l.length c1) rfl (by kernel_rfl) (by kernel_rfl) (by kernel_rfl) (fun _ _ _ h => h) (by rfl) (fun w9 hS => ?_) Q3.out ?_
  · clear hS
    go_simp
  go_frame
  refine h_call (i := 14) (f := 13) (args := #[.agg (row xa), .slice a1 l.length c1]) rfl (by kernel_rfl) (by rfl) (by go_simp) ?_
  refine (HIA.out _ _ (H1.out.below Q3.out.bel)).mono ?_
  rintro e10 w10 ⟨rfl, b9⟩
  have Q4 := Lib.hid (Q3.out.below b9)
  refine ⟨_, rfl, Q4.out, ?_⟩
  clear b9 Q3
  go_frame
  refine h_val (i := 15) (v := .bool true) rfl (by kernel_rfl) (by kernel_rfl) (by kernel_rfl) (fun _ _ _ h => h) (by rfl) (fun w9 hS => ?_) Q4.out ?_
  · clear hS
    go_simp
  go_frame
  refine h_val (i := 16) (v := .bool true) rfl (by kernel_rfl) (by kernel_rfl) (by kernel_rfl) (fun _ _ _ h => h) (by rfl) (fun w9 hS => ?_) Q4.out ?_
  · clear hS
    go_simp
  go_frame
  refine h_val (i := 17) (v := .agg (row xb)) rfl (by kernel_rfl) (by kernel_rfl) (by kernel_rfl) (fun _ _ _ h => h) (by rfl) (fun w9 hS => x_load 27 (.tmp 9) rfl _ rfl _ _ _ _ (hS.at_ (u1.heap.size, xb) (by simp)) Try.underlying27 rfl (info_chunk32 _ LB.out)) Q4.out ?_
  go_frame
  refine h_val (i := 18) (v := .slice a2 m.length c2) rfl (by kernel_rfl) (by kernel_rfl) (by kernel_rfl) (fun _ _ _ h => h) (by rfl) (fun w9 hS => ?_) Q4.out ?_
  · clear hS
    go_simp
  go_frame
  refine h_call (i := 19) (f := 13) (args := #[.agg (row xb), .slice a2 m.length c2]) rfl (by kernel_rfl) (by rfl) (by go_simp) ?_
  refine (HIB.out _ _ (H2.out.below Q4.out.bel)).mono ?_
  rintro e11 w11 ⟨rfl, b9⟩
  have Q5 := Lib.hid (Q4.out.below b9)
  refine ⟨_, rfl, Q5.out, ?_⟩
  clear b9 Q4
  go_frame
  refine h_val (i := 20) (v := .bool true) rfl (by kernel_rfl) (by kernel_rfl) (by kernel_rfl) (fun _ _ _ h => h) (by rfl) (fun w9 hS => ?_) Q5.out ?_
  · clear hS
    go_simp
  go_frame
  refine h_val (i := 21) (v := .bool true) rfl (by kernel_rfl) (by kernel_rfl) (by kernel_rfl) (fun _ _ _ h => h) (by rfl) (fun w9 hS => ?_) Q5.out ?_
  · clear hS
    go_simp
  go_frame
  refine h_call (i := 22) (f := 9) (args := #[]) rfl (by kernel_rfl) (by rfl) (by go_simp) ?_
  refine (HK.out _).mono ?_
  rintro e12 w12 ⟨rfl, b9⟩
  have Q6 := Lib.hid (Q5.out.below b9)
  refine ⟨_, rfl, Q6.out, ?_⟩
  clear b9 Q5
  go_frame
  refine h_val (i := 23) (v := .bool true) rfl (by kernel_rfl) (by kernel_rfl) (by kernel_rfl) (fun _ _ _ h => h) (by rfl) (fun w9 hS => ?_) Q6.out ?_
  · clear hS
    go_simp
  go_frame
  refine h_val (i := 24) (v := .bool true) rfl (by kernel_rfl) (by kernel_rfl) (by kernel_rfl) (fun _ _ _ h => h) (by rfl) (fun w9 hS => ?_) Q6.out ?_
  · clear hS
    go_simp
  go_frame
  refine h_done (by kernel_rfl) ?_
  go_wp2
  go_ret
  exact ⟨rfl, Q6.out.bel⟩

set_option maxRecDepth 100000 in
set_option maxHeartbeats 4000000 in
theorem splits_past_fit (v1 v2 : Value) (l m : List Int) (i : Int) (w : World) (h1 : Ints .i32 w v1 l) (h2 : Ints .i32 w v2 m) (he : ofE l = 0) (hf : ofE m = 0) (hi : (l.length : Int) < i) (hfit : l.length + m.length ≤ 32) :
    Calls Try.prog 4 #[v1, v2, .int .i64 i] w fun e w' => e = .returned (.bool true) ∧ Below w.heap.size w w' := by
  obtain ⟨i0, ki, kz0, kz1, kz2⟩ := info_parts info32
  have cl := chunky_of he
  have cm := chunky_of hf
  have hl32 := cl.1
  have hm32 := cm.1
  have H1 := Lib.hid h1
  have H2 := Lib.hid h2
  have ho1 := of_any v1 l w h1
  have ho2 := fun v w h => of_any v m w h
  rw [ofV_ok he] at ho1
  rw [ofV_ok hf] at ho2
  have HO1 := Lib.hid ho1
  have HO2 := Lib.hid ho2
  have HSP := Lib.hid (fun w => split_any l cl i w)
  have LA := Lib.hid (slots_len cl.1)
  have LB := Lib.hid (slots_len cm.1)
  have LZ := Lib.hid zero32_len
  have HK := Lib.hid (fun w => known9_any w)
  have HIA := Lib.hid (fun v w h => is_any l cl v w h)
  have HIB := Lib.hid (fun v w h => is_any m cm v w h)
  have hqe : ∀ A : Array Value, A = row zero32 → ∀ w, (binOp .eql 27 (.agg A) (.agg (row zero32))).run Try.prog w = .ok (.bool true) w := by
    intro A hA w
    rw [hA, chunk_eql zero32 zero32 LZ.out LZ.out w]; rfl
  have hqn : ∀ A : Array Value, A = row zero32 → ∀ w, (binOp .neq 27 (.agg A) (.agg (row zero32))).run Try.prog w = .ok (.bool false) w := by
    intro A hA w
    rw [hA, chunk_neq zero32 zero32 LZ.out LZ.out w]; rfl
  simp only [row, zero32, List.replicate, List.map] at hqe hqn
  obtain ⟨a1, c1, rfl⟩ := h1.shape
  obtain ⟨a2, c2, rfl⟩ := h2.shape
  have g0 : ¬ (1000 : Int) < l.length := by omega
  have g1 : ¬ (1000 : Int) < m.length := by omega
  have g2 : decide (i < 0) = false := by rw [decide_eq_false_iff_not]; omega
  have g3 : decide ((l.length : Int) < i) = true := by rw [decide_eq_true_iff]; exact hi
  rw [show splA l i = [] by unfold splA; rw [if_neg (by omega)], show splB l i = [] by unfold splB; rw [if_neg (by omega)], show splE l i = 5 by unfold splE; rw [if_neg (by omega)]] at HSP
  have LYA := Lib.hid (slots_len chunky_nil.1)
  have LYB := Lib.hid (slots_len chunky_nil.1)
  unfold cv at HSP HIA HIB
  have hqa := hqn (row (slots [])) rfl
  obtain ⟨ya, hya⟩ : ∃ xs, slots [] = xs := ⟨_, rfl⟩
  rw [hya] at HSP LYA LYB hqa
  obtain ⟨yb, hyb⟩ : ∃ xs, ya = xs := ⟨_, rfl⟩
  have hqb := hqa
  have HSP2 : Hid (∀ w, Calls Try.prog 14 #[.agg (row (slots l)), .int .i64 i] w fun e w' => e = .returned (.tuple #[.agg (row ya), .agg (row yb), .int .i64 5]) ∧ Below w.heap.size w w') := Lib.hid (by rw [← hyb]; exact HSP.out)
  rw [hyb] at hqb LYB
  clear HSP
  have HSP := HSP2
  clear hya hyb HSP2
  have call := cl.app cm hfit
  have HJ := Lib.hid (fun w => join_fit l m cl cm hfit w)
  have HIJ := Lib.hid (fun v w h => is_any (l ++ m) call v w h)
  have LJ := Lib.hid (slots_len call.1)
  have g4 : ¬ (32 : Int) < l.length + m.length := by omega
  unfold cv at HJ HIJ
  obtain ⟨xj, hxj⟩ : ∃ xs, slots (l ++ m) = xs := ⟨_, rfl⟩
  rw [hxj] at HJ HIJ LJ
  clear hxj call
  obtain ⟨xa, hxa⟩ : ∃ xs, slots l = xs := ⟨_, rfl⟩
  obtain ⟨xb, hxb⟩ : ∃ xs, slots m = xs := ⟨_, rfl⟩
  rw [hxa] at HO1 LA HSP HJ HIA
  rw [hxb] at HO2 LB HJ HIB
  clear hxa hxb h1 h2 ho1 ho2 cl cm he hf hqe hqn
  go_enter Try.func4, Try.ntmps4
  go_wp2_with (first
    | (go_at_call 10; refine HO1.out.mono ?_; rintro e1 u0 ⟨rfl, b1⟩; have K0 := Lib.hid ((Vs.none w).below b1); clear b1 HO1; refine Hid.out ?_))
  refine Lib.hid ?_
  go_wp2_with (first
    | (refine wpList_store_row rfl 27 (.tmp 7) (.tmp 28) rfl u0.heap.size (row xa) rfl rfl _ _ (rowAt_new _ _ zero32) (info_chunk32 _ LA.out) (by rw [row_size, row_size, LA.out]; rfl) (row_one _) ?_; refine with_worldL (Vs w [(u0.heap.size, xa)]) (K0.out.new xa) fun W hW => ?_; have K1 := Lib.hid hW; clear hW K0; refine Hid.out ?_))
  refine Lib.hid ?_
  go_wp2_with (first
    | (go_at_call 10; refine (HO2.out _ _ (H2.out.below K1.out.bel)).mono ?_; rintro e1 u1 ⟨rfl, b1⟩; have K2 := Lib.hid (K1.out.below b1); clear b1 HO2 K1; refine Hid.out ?_))
  refine Lib.hid ?_
  go_wp2_with (first
    | (refine wpList_store_row rfl 27 (.tmp 9) (.tmp 33) rfl u1.heap.size (row xb) rfl rfl _ _ (rowAt_new _ _ zero32) (info_chunk32 _ LB.out) (by rw [row_size, row_size, LB.out]; rfl) (row_one _) ?_; refine with_worldL (Vs w [(u1.heap.size, xb), (u0.heap.size, xa)]) (K2.out.new xb) fun W hW => ?_; have K3 := Lib.hid hW; clear hW K2; refine Hid.out ?_))
  refine Lib.hid ?_
  go_wp2_with (first
    | (refine wpList_load_roww 27 (.tmp 7) rfl _ rfl (by rfl) _ _ _ _ (K3.out.at_ (u0.heap.size, xa) (by simp)) Try.underlying27 rfl (info_chunk32 _ LA.out) ?_)
    | (go_at_call 14; refine (HSP.out _).mono ?_; rintro e2 u2 ⟨rfl, b3⟩; have K4 := Lib.hid (K3.out.below b3); have KF := Lib.hid (two_rows (W := u2) ya); clear b3 K3; refine Hid.out ?_))
  refine Lib.hid ?_
  go_wp2_with (first
    | (refine wpList_store_row rfl 27 (.tmp 11) (.tmp 46) rfl u2.heap.size (row ya) rfl rfl _ _ KF.out.1 (info_chunk32 _ LYA.out) (by rw [row_size, row_size, LYA.out]; rfl) (row_one _) ?_)
    | (refine wpList_store_row rfl 27 (.tmp 12) (.tmp 47) rfl (u2.heap.size + 1) (row yb) rfl rfl _ _ KF.out.2 (info_chunk32 _ LYB.out) (by rw [row_size, row_size, LYB.out]; rfl) (row_one _) ?_; refine with_worldL (Vs w [(u2.heap.size, ya), (u2.heap.size + 1, yb), (u1.heap.size, xb), (u0.heap.size, xa)]) (K4.out.two ya yb) fun W4 hW => ?_; have K5 := Lib.hid hW; clear hW K4 KF; refine Hid.out ?_))
  refine Lib.hid ?_
  have K6 := K5
  clear K5
  go_wp2_with (first
    | (refine wpList_load_roww 27 (.tmp 11) rfl _ rfl (by rfl) _ _ _ _ (K6.out.at_ (u2.heap.size, ya) (by simp)) Try.underlying27 rfl (info_chunk32 _ LYA.out) ?_)
    | (refine wpList_load_roww 27 (.tmp 12) rfl _ rfl (by rfl) _ _ _ _ (K6.out.at_ (u2.heap.size + 1, yb) (by simp)) Try.underlying27 rfl (info_chunk32 _ LYB.out) ?_)
    | (refine wpList_load_roww 27 (.tmp 7) rfl _ rfl (by rfl) _ _ _ _ (K6.out.at_ (u0.heap.size, xa) (by simp)) Try.underlying27 rfl (info_chunk32 _ LA.out) ?_)
    | (refine wpList_load_roww 27 (.tmp 9) rfl _ rfl (by rfl) _ _ _ _ (K6.out.at_ (u1.heap.size, xb) (by simp)) Try.underlying27 rfl (info_chunk32 _ LB.out) ?_)
    | (go_at_call 15; refine (HJ.out _).mono ?_; rintro e5 u3 ⟨rfl, b5⟩; have K7 := Lib.hid (K6.out.below b5); clear b5 K6; refine Hid.out ?_))
  refine Lib.hid ?_
  go_wp2_with (first
    | (refine wpList_store_row rfl 27 (.tmp 14) (.tmp 91) rfl u3.heap.size (row xj) rfl rfl _ _ (rowAt_new _ _ zero32) (info_chunk32 _ LJ.out) (by rw [row_size, row_size, LJ.out]; rfl) (row_one _) ?_; refine with_worldL (Vs w [(u3.heap.size, xj), (u2.heap.size, ya), (u2.heap.size + 1, yb), (u1.heap.size, xb), (u0.heap.size, xa)]) (K7.out.new xj) fun W8 hW => ?_; have K8 := Lib.hid hW; clear hW K7; refine Hid.out ?_))
  refine Lib.hid ?_
  go_wp2
  have Q0 := Lib.hid (K8.out.below (below_drew _))
  refine h_start (S := Vs w [(u3.heap.size, xj), (u2.heap.size, ya), (u2.heap.size + 1, yb), (u1.heap.size, xb), (u0.heap.size, xa)]) (by kernel_rfl) ?_
  refine h_val (i := 0) (v := .int .i64 0) rfl (by kernel_rfl) (by kernel_rfl) (by kernel_rfl) (fun _ _ _ h => h) (by rfl) (fun w9 hS => ?_) Q0.out ?_
  · clear hS
    go_simp
  go_frame
  refine h_val (i := 1) (v := .bool true) rfl (by kernel_rfl) (by kernel_rfl) (by kernel_rfl) (fun _ _ _ h => h) (by rfl) (fun w9 hS => ?_) Q0.out ?_
  · clear hS
    go_simp
  go_frame
  refine h_val (i := 2) (v := .bool true) rfl (by kernel_rfl) (by kernel_rfl) (by kernel_rfl) (fun _ _ _ h => h) (by rfl) (fun w9 hS => ?_) Q0.out ?_
  · clear hS
    go_simp
  go_frame
  refine h_val (i := 3) (v := .agg (row xj)) rfl (by kernel_rfl) (by kernel_rfl) (by kernel_rfl) (fun _ _ _ h => h) (by rfl) (fun w9 hS => x_load 27 (.tmp 14) rfl _ rfl _ _ _ _ (hS.at_ (u3.heap.size, xj) (by simp)) Try.underlying27 rfl (info_chunk32 _ LJ.out)) Q0.out ?_
  go_frame
  refine h_val (i := 5) (v := .slice a1 l.length c1) rfl (by kernel_rfl) (by kernel_rfl) (by kernel_rfl) (fun _ _ _ h => h) (by rfl) (fun w9 hS => ?_) Q0.out ?_
  · clear hS
    go_simp
  go_frame
  refine h_val (i := 7) (v := .slice a2 m.length c2) rfl (by kernel_rfl) (by kernel_rfl) (by kernel_rfl) (fun _ _ _ h => h) (by rfl) (fun w9 hS => ?_) Q0.out ?_
  · clear hS
    go_simp
  go_frame
  refine h_step (i := 4) rfl (by kernel_rfl) (by rfl) (fun K hK => ?_)
  go_simp
  refine hK _ _ (Q0.out.below ((Below.refl _ _).alloc (Nat.le_refl _) _)) ?_
  clear hK K
  refine h_step (i := 6) rfl (by kernel_rfl) (by rfl) (fun K hK => ?_)
  refine wp_append_ints (.tmp 123) (.tmp 124) 22 rfl W8.drew.heap.size 21 i0 (.int .i32 0) 4 Try.underlying22 ki kz0 kz1 kz2 rfl _ 0 [] rfl (owns_empty W8.drew 21) _ .i32 l rfl (H1.out.below (Q0.out.below ((Below.refl _ _).alloc (Nat.le_refl _) _)).bel) (by unfold maxLen; omega) (by omega) (by simp) ?_
  intro v1 w1 o1 g1
  have D1 := Lib.hid (((Below.refl W8.drew.heap.size W8.drew).alloc (Nat.le_refl _) (.cells #[] 21)).grown g1 (by simp) (fun k hk => ((owns_empty W8.drew 21).lt k hk).1))
  have A1 := Lib.hid (show w1.ownsRow W8.drew.heap.size 21 1 v1 l.length (l.map (Value.int .i32)) by simpa using o1)
  have Q1 := Lib.hid (Q0.out.below D1.out)
  refine hK _ _ Q1.out ?_
  clear hK K o1 g1
  go_frame
  refine h_step (i := 8) rfl (by kernel_rfl) (by rfl) (fun K hK => ?_)
  refine wp_append_ints (.tmp 125) (.tmp 126) 22 rfl W8.drew.heap.size 21 i0 (.int .i32 0) 4 Try.underlying22 ki kz0 kz1 kz2 rfl _ l.length _ rfl A1.out _ .i32 m rfl (H2.out.below Q1.out.bel) (by unfold maxLen; omega) (by omega) D1.out.size ?_
  intro v2 w2 o2 g2
  have D2 := Lib.hid (D1.out.grown g2 D1.out.size (fun k hk => (A1.out.lt k hk).1))
  have A2 := Lib.hid (show Ints .i32 w2 v2 (l ++ m) from ints_of_owns (base := W8.drew.heap.size) (e := 21) (by simpa using o2))
  have Q2 := Lib.hid (Q0.out.below D2.out)
  refine hK _ _ Q2.out ?_
  clear hK K o2 g2 Q1 A1 D1 D2 Q0
  go_frame
  refine h_call (i := 9) (f := 13) (args := #[.agg (row xj), v2]) rfl (by kernel_rfl) (by rfl) (by go_simp) ?_
  refine (HIJ.out v2 _ A2.out).mono ?_
  rintro e9 w9 ⟨rfl, b9⟩
  have Q3 := Lib.hid (Q2.out.below b9)
  refine ⟨_, rfl, Q3.out, ?_⟩
  clear b9 Q2 A2
  go_frame
  refine h_val (i := 10) (v := .bool true) rfl (by kernel_rfl) (by kernel_rfl) (by kernel_rfl) (fun _ _ _ h => h) (by rfl) (fun w9 hS => ?_) Q3.out ?_
  · clear hS
    go_simp
  go_frame
  refine h_val (i := 11) (v := .bool true) rfl (by kernel_rfl) (by kernel_rfl) (by kernel_rfl) (fun _ _ _ h => h) (by rfl) (fun w9 hS => ?_) Q3.out ?_
  · clear hS
    go_simp
  go_frame
  refine h_val (i := 12) (v := .agg (row xa)) rfl (by kernel_rfl) (by kernel_rfl) (by kernel_rfl) (fun _ _ _ h => h) (by rfl) (fun w9 hS => x_load 27 (.tmp 7) rfl _ rfl _ _ _ _ (hS.at_ (u0.heap.size, xa) (by simp)) Try.underlying27 rfl (info_chunk32 _ LA.out)) Q3.out ?_
  go_frame
  refine h_val (i := 13) (v := .slice a1 l.length c1) rfl (by kernel_rfl) (by kernel_rfl) (by kernel_rfl) (fun _ _ _ h => h) (by rfl) (fun w9 hS => ?_) Q3.out ?_
  · clear hS
    go_simp
  go_frame
  refine h_call (i := 14) (f := 13) (args := #[.agg (row xa), .slice a1 l.length c1]) rfl (by kernel_rfl) (by rfl) (by go_simp) ?_
  refine (HIA.out _ _ (H1.out.below Q3.out.bel)).mono ?_
  rintro e10 w10 ⟨rfl, b9⟩
  have Q4 := Lib.hid (Q3.out.below b9)
  refine ⟨_, rfl, Q4.out, ?_⟩
  clear b9 Q3
  go_frame
  refine h_val (i := 15) (v := .bool true) rfl (by kernel_rfl) (by kernel_rfl) (by kernel_rfl) (fun _ _ _ h => h) (by rfl) (fun w9 hS => ?_) Q4.out ?_
  · clear hS
    go_simp
  go_frame
  refine h_val (i := 16) (v := .bool true) rfl (by kernel_rfl) (by kernel_rfl) (by kernel_rfl) (fun _ _ _ h => h) (by rfl) (fun w9 hS => ?_) Q4.out ?_
  · clear hS
    go_simp
  go_frame
  refine h_val (i := 17) (v := .agg (row xb)) rfl (by kernel_rfl) (by kernel_rfl) (by kernel_rfl) (fun _ _ _ h => h) (by rfl) (fun w9 hS => x_load 27 (.tmp 9) rfl _ rfl _ _ _ _ (hS.at_ (u1.heap.size, xb) (by simp)) Try.underlying27 rfl (info_chunk32 _ LB.out)) Q4.out ?_
  go_frame
  refine h_val (i := 18) (v := .slice a2 m.length c2) rfl (by kernel_rfl) (by kernel_rfl) (by kernel_rfl) (fun _ _ _ h => h) (by rfl) (fun w9 hS => ?_) Q4.out ?_
  · clear hS
    go_simp
  go_frame
  refine h_call (i := 19) (f := 13) (args := #[.agg (row xb), .slice a2 m.length c2]) rfl (by kernel_rfl) (by rfl) (by go_simp) ?_
  refine (HIB.out _ _ (H2.out.below Q4.out.bel)).mono ?_
  rintro e11 w11 ⟨rfl, b9⟩
  have Q5 := Lib.hid (Q4.out.below b9)
  refine ⟨_, rfl, Q5.out, ?_⟩
  clear b9 Q4
  go_frame
  refine h_val (i := 20) (v := .bool true) rfl (by kernel_rfl) (by kernel_rfl) (by kernel_rfl) (fun _ _ _ h => h) (by rfl) (fun w9 hS => ?_) Q5.out ?_
  · clear hS
    go_simp
  go_frame
  refine h_val (i := 21) (v := .bool true) rfl (by kernel_rfl) (by kernel_rfl) (by kernel_rfl) (fun _ _ _ h => h) (by rfl) (fun w9 hS => ?_) Q5.out ?_
  · clear hS
    go_simp
  go_frame
  refine h_call (i := 22) (f := 9) (args := #[]) rfl (by kernel_rfl) (by rfl) (by go_simp) ?_
  refine (HK.out _).mono ?_
  rintro e12 w12 ⟨rfl, b9⟩
  have Q6 := Lib.hid (Q5.out.below b9)
  refine ⟨_, rfl, Q6.out, ?_⟩
  clear b9 Q5
  go_frame
  refine h_val (i := 23) (v := .bool true) rfl (by kernel_rfl) (by kernel_rfl) (by kernel_rfl) (fun _ _ _ h => h) (by rfl) (fun w9 hS => ?_) Q6.out ?_
  · clear hS
    go_simp
  go_frame
  refine h_val (i := 24) (v := .bool true) rfl (by kernel_rfl) (by kernel_rfl) (by kernel_rfl) (fun _ _ _ h => h) (by rfl) (fun w9 hS => ?_) Q6.out ?_
  · clear hS
    go_simp
  go_frame
  refine h_done (by kernel_rfl) ?_
  go_wp2
  go_ret
  exact ⟨rfl, Q6.out.bel⟩

set_option maxRecDepth 100000 in
set_option maxHeartbeats 4000000 in
theorem splits_ine_long (v1 v2 : Value) (l m : List Int) (j : Nat) (w : World) (h1 : Ints .i32 w v1 l) (h2 : Ints .i32 w v2 m) (he : ofE l = 0) (hf : ofE m = 0) (hi : j ≤ l.length) (hsh : ∃ c1 a1, v1 = .slice a1 l.length c1 ∧ c1 = j) (hfit : 32 < l.length + m.length) :
    Calls Try.prog 4 #[v1, v2, .int .i64 j] w fun e w' => e = .returned (.bool true) ∧ Below w.heap.size w w' := by
  obtain ⟨i0, ki, kz0, kz1, kz2⟩ := info_parts info32
  have cl := chunky_of he
  have cm := chunky_of hf
  have hl32 := cl.1
  have hm32 := cm.1
  have H1 := Lib.hid h1
  have H2 := Lib.hid h2
  have ho1 := of_any v1 l w h1
  have ho2 := fun v w h => of_any v m w h
  rw [ofV_ok he] at ho1
  rw [ofV_ok hf] at ho2
  have HO1 := Lib.hid ho1
  have HO2 := Lib.hid ho2
  have HSP := Lib.hid (fun w => split_any l cl j w)
  have LA := Lib.hid (slots_len cl.1)
  have LB := Lib.hid (slots_len cm.1)
  have LZ := Lib.hid zero32_len
  have HK := Lib.hid (fun w => known9_any w)
  have HIA := Lib.hid (fun v w h => is_any l cl v w h)
  have HIB := Lib.hid (fun v w h => is_any m cm v w h)
  have hqe : ∀ A : Array Value, A = row zero32 → ∀ w, (binOp .eql 27 (.agg A) (.agg (row zero32))).run Try.prog w = .ok (.bool true) w := by
    intro A hA w
    rw [hA, chunk_eql zero32 zero32 LZ.out LZ.out w]; rfl
  have hqn : ∀ A : Array Value, A = row zero32 → ∀ w, (binOp .neq 27 (.agg A) (.agg (row zero32))).run Try.prog w = .ok (.bool false) w := by
    intro A hA w
    rw [hA, chunk_neq zero32 zero32 LZ.out LZ.out w]; rfl
  simp only [row, zero32, List.replicate, List.map] at hqe hqn
  obtain ⟨c1, a1, rfl, hce⟩ := hsh
  obtain ⟨a2, c2, rfl⟩ := h2.shape
  have g0 : ¬ (1000 : Int) < l.length := by omega
  have g1 : ¬ (1000 : Int) < m.length := by omega
  have hjl : j ≤ l.length := by omega
  have g2 : decide ((j : Int) < 0) = false := by rw [decide_eq_false_iff_not]; omega
  have g3 : decide (l.length < j) = false := by rw [decide_eq_false_iff_not]; omega
  have i0' : (0 : Int) ≤ (j : Int) := by omega
  have i1' : (j : Int) ≤ l.length := by omega
  have ca := cl.take j
  have cb := cl.drop j
  rw [show splA l (j : Int) = l.take j by unfold splA; rw [if_pos (by omega), Int.toNat_natCast], show splB l (j : Int) = l.drop j by unfold splB; rw [if_pos (by omega), Int.toNat_natCast], show splE l (j : Int) = 0 by unfold splE; rw [if_pos (by omega)]] at HSP
  have HJA := Lib.hid (fun v w h => is_any (l.take j) ca v w h)
  have HJB := Lib.hid (fun v w h => is_any (l.drop j) cb v w h)
  have LYA := Lib.hid (slots_len ca.1)
  have LYB := Lib.hid (slots_len cb.1)
  obtain ⟨hcap, hcapm⟩ : l.length ≤ c1 ∧ c1 ≤ maxLen := by
    rcases h1 with ⟨a', c', hv, hx, hm', _⟩ | ⟨b, off, c', hv, _, hx, hm', _⟩
    · injection hv with e1 e2 e3; subst e3; rw [hx]; exact ⟨Nat.zero_le _, hm'⟩
    · injection hv with e1 e2 e3; subst e3; exact ⟨hx, hm'⟩
  have i2' : (j : Int) ≤ c1 := by omega
  have HT1 := Lib.hid (fun W (hb : Below w.heap.size w W) => ints_head (H1.out.below hb) hjl)
  obtain rfl : c1 = j := hce
  have HT2 := Lib.hid (fun W (hb : Below w.heap.size w W) => (Ints.tail (H1.out.below hb) hjl).1 rfl)
  unfold cv at HSP HIA HIB HJA HJB
  obtain ⟨ya, hya⟩ : ∃ xs, slots (l.take c1) = xs := ⟨_, rfl⟩
  obtain ⟨yb, hyb⟩ : ∃ xs, slots (l.drop c1) = xs := ⟨_, rfl⟩
  rw [hya] at HSP HJA LYA
  rw [hyb] at HSP HJB LYB
  clear hya hyb ca cb
  have hj := fun w => join_long l m cl cm hfit w
  have LJ := Lib.hid zero32_len
  have g4 : (32 : Int) < l.length + m.length := by omega
  have hqj := hqe (row zero32) rfl
  obtain ⟨xj, hxj⟩ : ∃ xs, zero32 = xs := ⟨_, rfl⟩
  have HJ : Hid (∀ w, Calls Try.prog 15 #[.agg (row (slots l)), .agg (row (slots m))] w fun e w' => e = .returned (.tuple #[.agg (row xj), .int .i64 8]) ∧ Below w.heap.size w w') := Lib.hid (by rw [← hxj]; exact hj)
  rw [hxj] at LJ hqj
  clear hxj hj
  obtain ⟨xa, hxa⟩ : ∃ xs, slots l = xs := ⟨_, rfl⟩
  obtain ⟨xb, hxb⟩ : ∃ xs, slots m = xs := ⟨_, rfl⟩
  rw [hxa] at HO1 LA HSP HJ HIA
  rw [hxb] at HO2 LB HJ HIB
  clear hxa hxb h1 h2 ho1 ho2 cl cm he hf hqe hqn
  go_enter Try.func4, Try.ntmps4
  go_wp2_with (first
    | (go_at_call 10; refine HO1.out.mono ?_; rintro e1 u0 ⟨rfl, b1⟩; have K0 := Lib.hid ((Vs.none w).below b1); clear b1 HO1; refine Hid.out ?_))
  refine Lib.hid ?_
  go_wp2_with (first
    | (refine wpList_store_row rfl 27 (.tmp 7) (.tmp 28) rfl u0.heap.size (row xa) rfl rfl _ _ (rowAt_new _ _ zero32) (info_chunk32 _ LA.out) (by rw [row_size, row_size, LA.out]; rfl) (row_one _) ?_; refine with_worldL (Vs w [(u0.heap.size, xa)]) (K0.out.new xa) fun W hW => ?_; have K1 := Lib.hid hW; clear hW K0; refine Hid.out ?_))
  refine Lib.hid ?_
  go_wp2_with (first
    | (go_at_call 10; refine (HO2.out _ _ (H2.out.below K1.out.bel)).mono ?_; rintro e1 u1 ⟨rfl, b1⟩; have K2 := Lib.hid (K1.out.below b1); clear b1 HO2 K1; refine Hid.out ?_))
  refine Lib.hid ?_
  go_wp2_with (first
    | (refine wpList_store_row rfl 27 (.tmp 9) (.tmp 33) rfl u1.heap.size (row xb) rfl rfl _ _ (rowAt_new _ _ zero32) (info_chunk32 _ LB.out) (by rw [row_size, row_size, LB.out]; rfl) (row_one _) ?_; refine with_worldL (Vs w [(u1.heap.size, xb), (u0.heap.size, xa)]) (K2.out.new xb) fun W hW => ?_; have K3 := Lib.hid hW; clear hW K2; refine Hid.out ?_))
  refine Lib.hid ?_
  go_wp2_with (first
    | (refine wpList_load_roww 27 (.tmp 7) rfl _ rfl (by rfl) _ _ _ _ (K3.out.at_ (u0.heap.size, xa) (by simp)) Try.underlying27 rfl (info_chunk32 _ LA.out) ?_)
    | (go_at_call 14; refine (HSP.out _).mono ?_; rintro e2 u2 ⟨rfl, b3⟩; have K4 := Lib.hid (K3.out.below b3); have KF := Lib.hid (two_rows (W := u2) ya); clear b3 K3; refine Hid.out ?_))
  refine Lib.hid ?_
  go_wp2_with (first
    | (refine wpList_store_row rfl 27 (.tmp 11) (.tmp 46) rfl u2.heap.size (row ya) rfl rfl _ _ KF.out.1 (info_chunk32 _ LYA.out) (by rw [row_size, row_size, LYA.out]; rfl) (row_one _) ?_)
    | (refine wpList_store_row rfl 27 (.tmp 12) (.tmp 47) rfl (u2.heap.size + 1) (row yb) rfl rfl _ _ KF.out.2 (info_chunk32 _ LYB.out) (by rw [row_size, row_size, LYB.out]; rfl) (row_one _) ?_; refine with_worldL (Vs w [(u2.heap.size, ya), (u2.heap.size + 1, yb), (u1.heap.size, xb), (u0.heap.size, xa)]) (K4.out.two ya yb) fun W4 hW => ?_; have K5 := Lib.hid hW; clear hW K4 KF; refine Hid.out ?_))
  refine Lib.hid ?_
  go_wp2
  refine region_classw (C := Vs w [(u2.heap.size, ya), (u2.heap.size + 1, yb), (u1.heap.size, xb), (u0.heap.size, xa)]) (by kernel_rfl) (by kernel_rfl) (K5.out.below (below_drew _)) ?_
  repeat (first
    | (first
         | refine w_skip (by rfl) (by rfl) ?_
         | refine w_skipn (by rfl) (by rfl) ?_
       simp only [Act.put, List.setIfInBounds_toArray, List.set_cons_zero, List.set_cons_succ])
    | (first
         | refine w_val (v := .agg (row ya)) (by rfl) (fun w9 hS => x_load 27 (.tmp 11) rfl _ rfl _ _ _ _ (hS.at_ (u2.heap.size, ya) (by simp)) Try.underlying27 rfl (info_chunk32 _ LYA.out)) ?_
         | refine w_valg (v := .agg (row ya)) (by rfl) (by rfl) (fun w9 hS => x_load 27 (.tmp 11) rfl _ rfl _ _ _ _ (hS.at_ (u2.heap.size, ya) (by simp)) Try.underlying27 rfl (info_chunk32 _ LYA.out)) ?_
       simp only [Act.put, List.setIfInBounds_toArray, List.set_cons_zero, List.set_cons_succ])
    | (first
         | refine w_val (v := .agg (row yb)) (by rfl) (fun w9 hS => x_load 27 (.tmp 12) rfl _ rfl _ _ _ _ (hS.at_ (u2.heap.size + 1, yb) (by simp)) Try.underlying27 rfl (info_chunk32 _ LYB.out)) ?_
         | refine w_valg (v := .agg (row yb)) (by rfl) (by rfl) (fun w9 hS => x_load 27 (.tmp 12) rfl _ rfl _ _ _ _ (hS.at_ (u2.heap.size + 1, yb) (by simp)) Try.underlying27 rfl (info_chunk32 _ LYB.out)) ?_
       simp only [Act.put, List.setIfInBounds_toArray, List.set_cons_zero, List.set_cons_succ])
    | (first
         | refine w_val (v := ?_) (by rfl) (fun w9 hS => ?_) ?_
         | refine w_valg (v := ?_) (by rfl) (by rfl) (fun w9 hS => ?_) ?_
       rotate_left
       · clear hS
         go_simp
         try with_reducible rfl
       simp only [Act.put, List.setIfInBounds_toArray, List.set_cons_zero, List.set_cons_succ])
    | (first
         | refine w_call (f := 13) (args := #[.agg (row ya), .slice a1 c1 c1]) (by rfl) (fun w9 hS => ?_) (fun w9 hS => (HJA.out _ w9 (HT1.out w9 hS.bel)).mono fun e w' ⟨q1, q2⟩ => ⟨q1, hS.below q2⟩) ?_
         | refine w_callg (f := 13) (args := #[.agg (row ya), .slice a1 c1 c1]) (by rfl) (by rfl) (fun w9 hS => ?_) (fun w9 hS => (HJA.out _ w9 (HT1.out w9 hS.bel)).mono fun e w' ⟨q1, q2⟩ => ⟨q1, hS.below q2⟩) ?_
       · clear hS
         go_simp
       simp only [Act.put, List.setIfInBounds_toArray, List.set_cons_zero, List.set_cons_succ])
    | (first
         | refine w_call (f := 13) (args := #[.agg (row yb), .slice a1 (l.length - c1) 0]) (by rfl) (fun w9 hS => ?_) (fun w9 hS => (HJB.out _ w9 (HT2.out w9 hS.bel)).mono fun e w' ⟨q1, q2⟩ => ⟨q1, hS.below q2⟩) ?_
         | refine w_callg (f := 13) (args := #[.agg (row yb), .slice a1 (l.length - c1) 0]) (by rfl) (by rfl) (fun w9 hS => ?_) (fun w9 hS => (HJB.out _ w9 (HT2.out w9 hS.bel)).mono fun e w' ⟨q1, q2⟩ => ⟨q1, hS.below q2⟩) ?_
       · clear hS
         go_simp
       simp only [Act.put, List.setIfInBounds_toArray, List.set_cons_zero, List.set_cons_succ]))
  refine w_end ?_
  intro W6 T6
  have K6 := Lib.hid T6
  clear T6 K5
  go_wp2_with (first
    | (refine wpList_load_roww 27 (.tmp 7) rfl _ rfl (by rfl) _ _ _ _ (K6.out.at_ (u0.heap.size, xa) (by simp)) Try.underlying27 rfl (info_chunk32 _ LA.out) ?_)
    | (refine wpList_load_roww 27 (.tmp 9) rfl _ rfl (by rfl) _ _ _ _ (K6.out.at_ (u1.heap.size, xb) (by simp)) Try.underlying27 rfl (info_chunk32 _ LB.out) ?_)
    | (go_at_call 15; refine (HJ.out _).mono ?_; rintro e5 u3 ⟨rfl, b5⟩; have K7 := Lib.hid (K6.out.below b5); clear b5 K6; refine Hid.out ?_))
  refine Lib.hid ?_
  go_wp2_with (first
    | (refine wpList_store_row rfl 27 (.tmp 14) (.tmp 91) rfl u3.heap.size (row xj) rfl rfl _ _ (rowAt_new _ _ zero32) (info_chunk32 _ LJ.out) (by rw [row_size, row_size, LJ.out]; rfl) (row_one _) ?_; refine with_worldL (Vs w [(u3.heap.size, xj), (u2.heap.size, ya), (u2.heap.size + 1, yb), (u1.heap.size, xb), (u0.heap.size, xa)]) (K7.out.new xj) fun W8 hW => ?_; have K8 := Lib.hid hW; clear hW K7; refine Hid.out ?_))
  refine Lib.hid ?_
  go_wp2_with (first
    | (refine wpList_load_roww 27 (.tmp 14) rfl _ rfl (by rfl) _ _ _ _ (K8.out.at_ (u3.heap.size, xj) (by simp)) Try.underlying27 rfl (info_chunk32 _ LJ.out) ?_)
    | (refine wpList_load_roww 27 (.tmp 7) rfl _ rfl (by rfl) _ _ _ _ (K8.out.at_ (u0.heap.size, xa) (by simp)) Try.underlying27 rfl (info_chunk32 _ LA.out) ?_)
    | (go_at_call 13; with_reducible (refine (HIA.out (.slice a1 l.length c1) _ (H1.out.below K8.out.bel)).mono ?_); rintro e6 w6 ⟨rfl, b6⟩; have K9 := Lib.hid (K8.out.below b6); clear b6 K8)
    | (refine wpList_load_roww 27 (.tmp 9) rfl _ rfl (by rfl) _ _ _ _ (K9.out.at_ (u1.heap.size, xb) (by simp)) Try.underlying27 rfl (info_chunk32 _ LB.out) ?_)
    | (go_at_call 13; with_reducible (refine (HIB.out (.slice a2 m.length c2) _ (H2.out.below K9.out.bel)).mono ?_); rintro e7 w7 ⟨rfl, b7⟩; have K10 := Lib.hid (K9.out.below b7); clear b7 K9)
    | (go_at_call 9; refine (HK.out _).mono ?_; rintro e w99 ⟨rfl, b99⟩))
  go_ret
  exact ⟨rfl, (K10.out.below b99).bel⟩

set_option maxRecDepth 100000 in
set_option maxHeartbeats 4000000 in
theorem splits_inn_long (v1 v2 : Value) (l m : List Int) (j : Nat) (w : World) (h1 : Ints .i32 w v1 l) (h2 : Ints .i32 w v2 m) (he : ofE l = 0) (hf : ofE m = 0) (hi : j ≤ l.length) (hsh : ∃ c1 a1, v1 = .slice a1 l.length c1 ∧ ¬ c1 = j) (hfit : 32 < l.length + m.length) :
    Calls Try.prog 4 #[v1, v2, .int .i64 j] w fun e w' => e = .returned (.bool true) ∧ Below w.heap.size w w' := by
  obtain ⟨i0, ki, kz0, kz1, kz2⟩ := info_parts info32
  have cl := chunky_of he
  have cm := chunky_of hf
  have hl32 := cl.1
  have hm32 := cm.1
  have H1 := Lib.hid h1
  have H2 := Lib.hid h2
  have ho1 := of_any v1 l w h1
  have ho2 := fun v w h => of_any v m w h
  rw [ofV_ok he] at ho1
  rw [ofV_ok hf] at ho2
  have HO1 := Lib.hid ho1
  have HO2 := Lib.hid ho2
  have HSP := Lib.hid (fun w => split_any l cl j w)
  have LA := Lib.hid (slots_len cl.1)
  have LB := Lib.hid (slots_len cm.1)
  have LZ := Lib.hid zero32_len
  have HK := Lib.hid (fun w => known9_any w)
  have HIA := Lib.hid (fun v w h => is_any l cl v w h)
  have HIB := Lib.hid (fun v w h => is_any m cm v w h)
  have hqe : ∀ A : Array Value, A = row zero32 → ∀ w, (binOp .eql 27 (.agg A) (.agg (row zero32))).run Try.prog w = .ok (.bool true) w := by
    intro A hA w
    rw [hA, chunk_eql zero32 zero32 LZ.out LZ.out w]; rfl
  have hqn : ∀ A : Array Value, A = row zero32 → ∀ w, (binOp .neq 27 (.agg A) (.agg (row zero32))).run Try.prog w = .ok (.bool false) w := by
    intro A hA w
    rw [hA, chunk_neq zero32 zero32 LZ.out LZ.out w]; rfl
  simp only [row, zero32, List.replicate, List.map] at hqe hqn
  obtain ⟨c1, a1, rfl, hce⟩ := hsh
  obtain ⟨a2, c2, rfl⟩ := h2.shape
  have g0 : ¬ (1000 : Int) < l.length := by omega
  have g1 : ¬ (1000 : Int) < m.length := by omega
  have hjl : j ≤ l.length := by omega
  have g2 : decide ((j : Int) < 0) = false := by rw [decide_eq_false_iff_not]; omega
  have g3 : decide (l.length < j) = false := by rw [decide_eq_false_iff_not]; omega
  have i0' : (0 : Int) ≤ (j : Int) := by omega
  have i1' : (j : Int) ≤ l.length := by omega
  have ca := cl.take j
  have cb := cl.drop j
  rw [show splA l (j : Int) = l.take j by unfold splA; rw [if_pos (by omega), Int.toNat_natCast], show splB l (j : Int) = l.drop j by unfold splB; rw [if_pos (by omega), Int.toNat_natCast], show splE l (j : Int) = 0 by unfold splE; rw [if_pos (by omega)]] at HSP
  have HJA := Lib.hid (fun v w h => is_any (l.take j) ca v w h)
  have HJB := Lib.hid (fun v w h => is_any (l.drop j) cb v w h)
  have LYA := Lib.hid (slots_len ca.1)
  have LYB := Lib.hid (slots_len cb.1)
  obtain ⟨hcap, hcapm⟩ : l.length ≤ c1 ∧ c1 ≤ maxLen := by
    rcases h1 with ⟨a', c', hv, hx, hm', _⟩ | ⟨b, off, c', hv, _, hx, hm', _⟩
    · injection hv with e1 e2 e3; subst e3; rw [hx]; exact ⟨Nat.zero_le _, hm'⟩
    · injection hv with e1 e2 e3; subst e3; exact ⟨hx, hm'⟩
  have i2' : (j : Int) ≤ c1 := by omega
  have HT1 := Lib.hid (fun W (hb : Below w.heap.size w W) => ints_head (H1.out.below hb) hjl)
  have hce' := hce
  have HT2 := Lib.hid (fun W (hb : Below w.heap.size w W) => (Ints.tail (H1.out.below hb) hjl).2 hce)
  unfold cv at HSP HIA HIB HJA HJB
  obtain ⟨ya, hya⟩ : ∃ xs, slots (l.take j) = xs := ⟨_, rfl⟩
  obtain ⟨yb, hyb⟩ : ∃ xs, slots (l.drop j) = xs := ⟨_, rfl⟩
  rw [hya] at HSP HJA LYA
  rw [hyb] at HSP HJB LYB
  clear hya hyb ca cb
  have hj := fun w => join_long l m cl cm hfit w
  have LJ := Lib.hid zero32_len
  have g4 : (32 : Int) < l.length + m.length := by omega
  have hqj := hqe (row zero32) rfl
  obtain ⟨xj, hxj⟩ : ∃ xs, zero32 = xs := ⟨_, rfl⟩
  have HJ : Hid (∀ w, Calls Try.prog 15 #[.agg (row (slots l)), .agg (row (slots m))] w fun e w' => e = .returned (.tuple #[.agg (row xj), .int .i64 8]) ∧ Below w.heap.size w w') := Lib.hid (by rw [← hxj]; exact hj)
  rw [hxj] at LJ hqj
  clear hxj hj
  obtain ⟨xa, hxa⟩ : ∃ xs, slots l = xs := ⟨_, rfl⟩
  obtain ⟨xb, hxb⟩ : ∃ xs, slots m = xs := ⟨_, rfl⟩
  rw [hxa] at HO1 LA HSP HJ HIA
  rw [hxb] at HO2 LB HJ HIB
  clear hxa hxb h1 h2 ho1 ho2 cl cm he hf hqe hqn
  go_enter Try.func4, Try.ntmps4
  go_wp2_with (first
    | (go_at_call 10; refine HO1.out.mono ?_; rintro e1 u0 ⟨rfl, b1⟩; have K0 := Lib.hid ((Vs.none w).below b1); clear b1 HO1; refine Hid.out ?_))
  refine Lib.hid ?_
  go_wp2_with (first
    | (refine wpList_store_row rfl 27 (.tmp 7) (.tmp 28) rfl u0.heap.size (row xa) rfl rfl _ _ (rowAt_new _ _ zero32) (info_chunk32 _ LA.out) (by rw [row_size, row_size, LA.out]; rfl) (row_one _) ?_; refine with_worldL (Vs w [(u0.heap.size, xa)]) (K0.out.new xa) fun W hW => ?_; have K1 := Lib.hid hW; clear hW K0; refine Hid.out ?_))
  refine Lib.hid ?_
  go_wp2_with (first
    | (go_at_call 10; refine (HO2.out _ _ (H2.out.below K1.out.bel)).mono ?_; rintro e1 u1 ⟨rfl, b1⟩; have K2 := Lib.hid (K1.out.below b1); clear b1 HO2 K1; refine Hid.out ?_))
  refine Lib.hid ?_
  go_wp2_with (first
    | (refine wpList_store_row rfl 27 (.tmp 9) (.tmp 33) rfl u1.heap.size (row xb) rfl rfl _ _ (rowAt_new _ _ zero32) (info_chunk32 _ LB.out) (by rw [row_size, row_size, LB.out]; rfl) (row_one _) ?_; refine with_worldL (Vs w [(u1.heap.size, xb), (u0.heap.size, xa)]) (K2.out.new xb) fun W hW => ?_; have K3 := Lib.hid hW; clear hW K2; refine Hid.out ?_))
  refine Lib.hid ?_
  go_wp2_with (first
    | (refine wpList_load_roww 27 (.tmp 7) rfl _ rfl (by rfl) _ _ _ _ (K3.out.at_ (u0.heap.size, xa) (by simp)) Try.underlying27 rfl (info_chunk32 _ LA.out) ?_)
    | (go_at_call 14; refine (HSP.out _).mono ?_; rintro e2 u2 ⟨rfl, b3⟩; have K4 := Lib.hid (K3.out.below b3); have KF := Lib.hid (two_rows (W := u2) ya); clear b3 K3; refine Hid.out ?_))
  refine Lib.hid ?_
  go_wp2_with (first
    | (refine wpList_store_row rfl 27 (.tmp 11) (.tmp 46) rfl u2.heap.size (row ya) rfl rfl _ _ KF.out.1 (info_chunk32 _ LYA.out) (by rw [row_size, row_size, LYA.out]; rfl) (row_one _) ?_)
    | (refine wpList_store_row rfl 27 (.tmp 12) (.tmp 47) rfl (u2.heap.size + 1) (row yb) rfl rfl _ _ KF.out.2 (info_chunk32 _ LYB.out) (by rw [row_size, row_size, LYB.out]; rfl) (row_one _) ?_; refine with_worldL (Vs w [(u2.heap.size, ya), (u2.heap.size + 1, yb), (u1.heap.size, xb), (u0.heap.size, xa)]) (K4.out.two ya yb) fun W4 hW => ?_; have K5 := Lib.hid hW; clear hW K4 KF; refine Hid.out ?_))
  refine Lib.hid ?_
  go_wp2
  refine region_classw (C := Vs w [(u2.heap.size, ya), (u2.heap.size + 1, yb), (u1.heap.size, xb), (u0.heap.size, xa)]) (by kernel_rfl) (by kernel_rfl) (K5.out.below (below_drew _)) ?_
  repeat (first
    | (first
         | refine w_skip (by rfl) (by rfl) ?_
         | refine w_skipn (by rfl) (by rfl) ?_
       simp only [Act.put, List.setIfInBounds_toArray, List.set_cons_zero, List.set_cons_succ])
    | (first
         | refine w_val (v := .agg (row ya)) (by rfl) (fun w9 hS => x_load 27 (.tmp 11) rfl _ rfl _ _ _ _ (hS.at_ (u2.heap.size, ya) (by simp)) Try.underlying27 rfl (info_chunk32 _ LYA.out)) ?_
         | refine w_valg (v := .agg (row ya)) (by rfl) (by rfl) (fun w9 hS => x_load 27 (.tmp 11) rfl _ rfl _ _ _ _ (hS.at_ (u2.heap.size, ya) (by simp)) Try.underlying27 rfl (info_chunk32 _ LYA.out)) ?_
       simp only [Act.put, List.setIfInBounds_toArray, List.set_cons_zero, List.set_cons_succ])
    | (first
         | refine w_val (v := .agg (row yb)) (by rfl) (fun w9 hS => x_load 27 (.tmp 12) rfl _ rfl _ _ _ _ (hS.at_ (u2.heap.size + 1, yb) (by simp)) Try.underlying27 rfl (info_chunk32 _ LYB.out)) ?_
         | refine w_valg (v := .agg (row yb)) (by rfl) (by rfl) (fun w9 hS => x_load 27 (.tmp 12) rfl _ rfl _ _ _ _ (hS.at_ (u2.heap.size + 1, yb) (by simp)) Try.underlying27 rfl (info_chunk32 _ LYB.out)) ?_
       simp only [Act.put, List.setIfInBounds_toArray, List.set_cons_zero, List.set_cons_succ])
    | (first
         | refine w_val (v := ?_) (by rfl) (fun w9 hS => ?_) ?_
         | refine w_valg (v := ?_) (by rfl) (by rfl) (fun w9 hS => ?_) ?_
       rotate_left
       · clear hS
         go_simp
         try with_reducible rfl
       simp only [Act.put, List.setIfInBounds_toArray, List.set_cons_zero, List.set_cons_succ])
    | (first
         | refine w_call (f := 13) (args := #[.agg (row ya), .slice a1 j c1]) (by rfl) (fun w9 hS => ?_) (fun w9 hS => (HJA.out _ w9 (HT1.out w9 hS.bel)).mono fun e w' ⟨q1, q2⟩ => ⟨q1, hS.below q2⟩) ?_
         | refine w_callg (f := 13) (args := #[.agg (row ya), .slice a1 j c1]) (by rfl) (by rfl) (fun w9 hS => ?_) (fun w9 hS => (HJA.out _ w9 (HT1.out w9 hS.bel)).mono fun e w' ⟨q1, q2⟩ => ⟨q1, hS.below q2⟩) ?_
       · clear hS
         go_simp
       simp only [Act.put, List.setIfInBounds_toArray, List.set_cons_zero, List.set_cons_succ])
    | (first
         | refine w_call (f := 13) (args := #[.agg (row yb), .slice (a1.map (·.add j)) (l.length - j) (c1 - j)]) (by rfl) (fun w9 hS => ?_) (fun w9 hS => (HJB.out _ w9 (HT2.out w9 hS.bel)).mono fun e w' ⟨q1, q2⟩ => ⟨q1, hS.below q2⟩) ?_
         | refine w_callg (f := 13) (args := #[.agg (row yb), .slice (a1.map (·.add j)) (l.length - j) (c1 - j)]) (by rfl) (by rfl) (fun w9 hS => ?_) (fun w9 hS => (HJB.out _ w9 (HT2.out w9 hS.bel)).mono fun e w' ⟨q1, q2⟩ => ⟨q1, hS.below q2⟩) ?_
       · clear hS
         go_simp
       simp only [Act.put, List.setIfInBounds_toArray, List.set_cons_zero, List.set_cons_succ]))
  refine w_end ?_
  intro W6 T6
  have K6 := Lib.hid T6
  clear T6 K5
  go_wp2_with (first
    | (refine wpList_load_roww 27 (.tmp 7) rfl _ rfl (by rfl) _ _ _ _ (K6.out.at_ (u0.heap.size, xa) (by simp)) Try.underlying27 rfl (info_chunk32 _ LA.out) ?_)
    | (refine wpList_load_roww 27 (.tmp 9) rfl _ rfl (by rfl) _ _ _ _ (K6.out.at_ (u1.heap.size, xb) (by simp)) Try.underlying27 rfl (info_chunk32 _ LB.out) ?_)
    | (go_at_call 15; refine (HJ.out _).mono ?_; rintro e5 u3 ⟨rfl, b5⟩; have K7 := Lib.hid (K6.out.below b5); clear b5 K6; refine Hid.out ?_))
  refine Lib.hid ?_
  go_wp2_with (first
    | (refine wpList_store_row rfl 27 (.tmp 14) (.tmp 91) rfl u3.heap.size (row xj) rfl rfl _ _ (rowAt_new _ _ zero32) (info_chunk32 _ LJ.out) (by rw [row_size, row_size, LJ.out]; rfl) (row_one _) ?_; refine with_worldL (Vs w [(u3.heap.size, xj), (u2.heap.size, ya), (u2.heap.size + 1, yb), (u1.heap.size, xb), (u0.heap.size, xa)]) (K7.out.new xj) fun W8 hW => ?_; have K8 := Lib.hid hW; clear hW K7; refine Hid.out ?_))
  refine Lib.hid ?_
  go_wp2_with (first
    | (refine wpList_load_roww 27 (.tmp 14) rfl _ rfl (by rfl) _ _ _ _ (K8.out.at_ (u3.heap.size, xj) (by simp)) Try.underlying27 rfl (info_chunk32 _ LJ.out) ?_)
    | (refine wpList_load_roww 27 (.tmp 7) rfl _ rfl (by rfl) _ _ _ _ (K8.out.at_ (u0.heap.size, xa) (by simp)) Try.underlying27 rfl (info_chunk32 _ LA.out) ?_)
    | (go_at_call 13; with_reducible (refine (HIA.out (.slice a1 l.length c1) _ (H1.out.below K8.out.bel)).mono ?_); rintro e6 w6 ⟨rfl, b6⟩; have K9 := Lib.hid (K8.out.below b6); clear b6 K8)
    | (refine wpList_load_roww 27 (.tmp 9) rfl _ rfl (by rfl) _ _ _ _ (K9.out.at_ (u1.heap.size, xb) (by simp)) Try.underlying27 rfl (info_chunk32 _ LB.out) ?_)
    | (go_at_call 13; with_reducible (refine (HIB.out (.slice a2 m.length c2) _ (H2.out.below K9.out.bel)).mono ?_); rintro e7 w7 ⟨rfl, b7⟩; have K10 := Lib.hid (K9.out.below b7); clear b7 K9)
    | (go_at_call 9; refine (HK.out _).mono ?_; rintro e w99 ⟨rfl, b99⟩))
  go_ret
  exact ⟨rfl, (K10.out.below b99).bel⟩

set_option maxRecDepth 100000 in
set_option maxHeartbeats 4000000 in
theorem splits_ine_fit (v1 v2 : Value) (l m : List Int) (j : Nat) (w : World) (h1 : Ints .i32 w v1 l) (h2 : Ints .i32 w v2 m) (he : ofE l = 0) (hf : ofE m = 0) (hi : j ≤ l.length) (hsh : ∃ c1 a1, v1 = .slice a1 l.length c1 ∧ c1 = j) (hfit : l.length + m.length ≤ 32) :
    Calls Try.prog 4 #[v1, v2, .int .i64 j] w fun e w' => e = .returned (.bool true) ∧ Below w.heap.size w w' := by
  obtain ⟨i0, ki, kz0, kz1, kz2⟩ := info_parts info32
  have cl := chunky_of he
  have cm := chunky_of hf
  have hl32 := cl.1
  have hm32 := cm.1
  have H1 := Lib.hid h1
  have H2 := Lib.hid h2
  have ho1 := of_any v1 l w h1
  have ho2 := fun v w h => of_any v m w h
  rw [ofV_ok he] at ho1
  rw [ofV_ok hf] at ho2
  have HO1 := Lib.hid ho1
  have HO2 := Lib.hid ho2
  have HSP := Lib.hid (fun w => split_any l cl j w)
  have LA := Lib.hid (slots_len cl.1)
  have LB := Lib.hid (slots_len cm.1)
  have LZ := Lib.hid zero32_len
  have HK := Lib.hid (fun w => known9_any w)
  have HIA := Lib.hid (fun v w h => is_any l cl v w h)
  have HIB := Lib.hid (fun v w h => is_any m cm v w h)
  have hqe : ∀ A : Array Value, A = row zero32 → ∀ w, (binOp .eql 27 (.agg A) (.agg (row zero32))).run Try.prog w = .ok (.bool true) w := by
    intro A hA w
    rw [hA, chunk_eql zero32 zero32 LZ.out LZ.out w]; rfl
  have hqn : ∀ A : Array Value, A = row zero32 → ∀ w, (binOp .neq 27 (.agg A) (.agg (row zero32))).run Try.prog w = .ok (.bool false) w := by
    intro A hA w
    rw [hA, chunk_neq zero32 zero32 LZ.out LZ.out w]; rfl
  simp only [row, zero32, List.replicate, List.map] at hqe hqn
  obtain ⟨c1, a1, rfl, hce⟩ := hsh
  obtain ⟨a2, c2, rfl⟩ := h2.shape
  have g0 : ¬ (1000 : Int) < l.length := by omega
  have g1 : ¬ (1000 : Int) < m.length := by omega
  have hjl : j ≤ l.length := by omega
  have g2 : decide ((j : Int) < 0) = false := by rw [decide_eq_false_iff_not]; omega
  have g3 : decide (l.length < j) = false := by rw [decide_eq_false_iff_not]; omega
  have i0' : (0 : Int) ≤ (j : Int) := by omega
  have i1' : (j : Int) ≤ l.length := by omega
  have ca := cl.take j
  have cb := cl.drop j
  rw [show splA l (j : Int) = l.take j by unfold splA; rw [if_pos (by omega), Int.toNat_natCast], show splB l (j : Int) = l.drop j by unfold splB; rw [if_pos (by omega), Int.toNat_natCast], show splE l (j : Int) = 0 by unfold splE; rw [if_pos (by omega)]] at HSP
  have HJA := Lib.hid (fun v w h => is_any (l.take j) ca v w h)
  have HJB := Lib.hid (fun v w h => is_any (l.drop j) cb v w h)
  have LYA := Lib.hid (slots_len ca.1)
  have LYB := Lib.hid (slots_len cb.1)
  obtain ⟨hcap, hcapm⟩ : l.length ≤ c1 ∧ c1 ≤ maxLen := by
    rcases h1 with ⟨a', c', hv, hx, hm', _⟩ | ⟨b, off, c', hv, _, hx, hm', _⟩
    · injection hv with e1 e2 e3; subst e3; rw [hx]; exact ⟨Nat.zero_le _, hm'⟩
    · injection hv with e1 e2 e3; subst e3; exact ⟨hx, hm'⟩
  have i2' : (j : Int) ≤ c1 := by omega
  have HT1 := Lib.hid (fun W (hb : Below w.heap.size w W) => ints_head (H1.out.below hb) hjl)
  obtain rfl : c1 = j := hce
  have HT2 := Lib.hid (fun W (hb : Below w.heap.size w W) => (Ints.tail (H1.out.below hb) hjl).1 rfl)
  unfold cv at HSP HIA HIB HJA HJB
  obtain ⟨ya, hya⟩ : ∃ xs, slots (l.take c1) = xs := ⟨_, rfl⟩
  obtain ⟨yb, hyb⟩ : ∃ xs, slots (l.drop c1) = xs := ⟨_, rfl⟩
  rw [hya] at HSP HJA LYA
  rw [hyb] at HSP HJB LYB
  clear hya hyb ca cb
  have call := cl.app cm hfit
  have HJ := Lib.hid (fun w => join_fit l m cl cm hfit w)
  have HIJ := Lib.hid (fun v w h => is_any (l ++ m) call v w h)
  have LJ := Lib.hid (slots_len call.1)
  have g4 : ¬ (32 : Int) < l.length + m.length := by omega
  unfold cv at HJ HIJ
  obtain ⟨xj, hxj⟩ : ∃ xs, slots (l ++ m) = xs := ⟨_, rfl⟩
  rw [hxj] at HJ HIJ LJ
  clear hxj call
  obtain ⟨xa, hxa⟩ : ∃ xs, slots l = xs := ⟨_, rfl⟩
  obtain ⟨xb, hxb⟩ : ∃ xs, slots m = xs := ⟨_, rfl⟩
  rw [hxa] at HO1 LA HSP HJ HIA
  rw [hxb] at HO2 LB HJ HIB
  clear hxa hxb h1 h2 ho1 ho2 cl cm he hf hqe hqn
  go_enter Try.func4, Try.ntmps4
  go_wp2_with (first
    | (go_at_call 10; refine HO1.out.mono ?_; rintro e1 u0 ⟨rfl, b1⟩; have K0 := Lib.hid ((Vs.none w).below b1); clear b1 HO1; refine Hid.out ?_))
  refine Lib.hid ?_
  go_wp2_with (first
    | (refine wpList_store_row rfl 27 (.tmp 7) (.tmp 28) rfl u0.heap.size (row xa) rfl rfl _ _ (rowAt_new _ _ zero32) (info_chunk32 _ LA.out) (by rw [row_size, row_size, LA.out]; rfl) (row_one _) ?_; refine with_worldL (Vs w [(u0.heap.size, xa)]) (K0.out.new xa) fun W hW => ?_; have K1 := Lib.hid hW; clear hW K0; refine Hid.out ?_))
  refine Lib.hid ?_
  go_wp2_with (first
    | (go_at_call 10; refine (HO2.out _ _ (H2.out.below K1.out.bel)).mono ?_; rintro e1 u1 ⟨rfl, b1⟩; have K2 := Lib.hid (K1.out.below b1); clear b1 HO2 K1; refine Hid.out ?_))
  refine Lib.hid ?_
  go_wp2_with (first
    | (refine wpList_store_row rfl 27 (.tmp 9) (.tmp 33) rfl u1.heap.size (row xb) rfl rfl _ _ (rowAt_new _ _ zero32) (info_chunk32 _ LB.out) (by rw [row_size, row_size, LB.out]; rfl) (row_one _) ?_; refine with_worldL (Vs w [(u1.heap.size, xb), (u0.heap.size, xa)]) (K2.out.new xb) fun W hW => ?_; have K3 := Lib.hid hW; clear hW K2; refine Hid.out ?_))
  refine Lib.hid ?_
  go_wp2_with (first
    | (refine wpList_load_roww 27 (.tmp 7) rfl _ rfl (by rfl) _ _ _ _ (K3.out.at_ (u0.heap.size, xa) (by simp)) Try.underlying27 rfl (info_chunk32 _ LA.out) ?_)
    | (go_at_call 14; refine (HSP.out _).mono ?_; rintro e2 u2 ⟨rfl, b3⟩; have K4 := Lib.hid (K3.out.below b3); have KF := Lib.hid (two_rows (W := u2) ya); clear b3 K3; refine Hid.out ?_))
  refine Lib.hid ?_
  go_wp2_with (first
    | (refine wpList_store_row rfl 27 (.tmp 11) (.tmp 46) rfl u2.heap.size (row ya) rfl rfl _ _ KF.out.1 (info_chunk32 _ LYA.out) (by rw [row_size, row_size, LYA.out]; rfl) (row_one _) ?_)
    | (refine wpList_store_row rfl 27 (.tmp 12) (.tmp 47) rfl (u2.heap.size + 1) (row yb) rfl rfl _ _ KF.out.2 (info_chunk32 _ LYB.out) (by rw [row_size, row_size, LYB.out]; rfl) (row_one _) ?_; refine with_worldL (Vs w [(u2.heap.size, ya), (u2.heap.size + 1, yb), (u1.heap.size, xb), (u0.heap.size, xa)]) (K4.out.two ya yb) fun W4 hW => ?_; have K5 := Lib.hid hW; clear hW K4 KF; refine Hid.out ?_))
  refine Lib.hid ?_
  go_wp2
  refine region_classw (C := Vs w [(u2.heap.size, ya), (u2.heap.size + 1, yb), (u1.heap.size, xb), (u0.heap.size, xa)]) (by kernel_rfl) (by kernel_rfl) (K5.out.below (below_drew _)) ?_
  repeat (first
    | (first
         | refine w_skip (by rfl) (by rfl) ?_
         | refine w_skipn (by rfl) (by rfl) ?_
       simp only [Act.put, List.setIfInBounds_toArray, List.set_cons_zero, List.set_cons_succ])
    | (first
         | refine w_val (v := .agg (row ya)) (by rfl) (fun w9 hS => x_load 27 (.tmp 11) rfl _ rfl _ _ _ _ (hS.at_ (u2.heap.size, ya) (by simp)) Try.underlying27 rfl (info_chunk32 _ LYA.out)) ?_
         | refine w_valg (v := .agg (row ya)) (by rfl) (by rfl) (fun w9 hS => x_load 27 (.tmp 11) rfl _ rfl _ _ _ _ (hS.at_ (u2.heap.size, ya) (by simp)) Try.underlying27 rfl (info_chunk32 _ LYA.out)) ?_
       simp only [Act.put, List.setIfInBounds_toArray, List.set_cons_zero, List.set_cons_succ])
    | (first
         | refine w_val (v := .agg (row yb)) (by rfl) (fun w9 hS => x_load 27 (.tmp 12) rfl _ rfl _ _ _ _ (hS.at_ (u2.heap.size + 1, yb) (by simp)) Try.underlying27 rfl (info_chunk32 _ LYB.out)) ?_
         | refine w_valg (v := .agg (row yb)) (by rfl) (by rfl) (fun w9 hS => x_load 27 (.tmp 12) rfl _ rfl _ _ _ _ (hS.at_ (u2.heap.size + 1, yb) (by simp)) Try.underlying27 rfl (info_chunk32 _ LYB.out)) ?_
       simp only [Act.put, List.setIfInBounds_toArray, List.set_cons_zero, List.set_cons_succ])
    | (first
         | refine w_val (v := ?_) (by rfl) (fun w9 hS => ?_) ?_
         | refine w_valg (v := ?_) (by rfl) (by rfl) (fun w9 hS => ?_) ?_
       rotate_left
       · clear hS
         go_simp
         try with_reducible rfl
       simp only [Act.put, List.setIfInBounds_toArray, List.set_cons_zero, List.set_cons_succ])
    | (first
         | refine w_call (f := 13) (args := #[.agg (row ya), .slice a1 c1 c1]) (by rfl) (fun w9 hS => ?_) (fun w9 hS => (HJA.out _ w9 (HT1.out w9 hS.bel)).mono fun e w' ⟨q1, q2⟩ => ⟨q1, hS.below q2⟩) ?_
         | refine w_callg (f := 13) (args := #[.agg (row ya), .slice a1 c1 c1]) (by rfl) (by rfl) (fun w9 hS => ?_) (fun w9 hS => (HJA.out _ w9 (HT1.out w9 hS.bel)).mono fun e w' ⟨q1, q2⟩ => ⟨q1, hS.below q2⟩) ?_
       · clear hS
         go_simp
       simp only [Act.put, List.setIfInBounds_toArray, List.set_cons_zero, List.set_cons_succ])
    | (first
         | refine w_call (f := 13) (args := #[.agg (row yb), .slice a1 (l.length - c1) 0]) (by rfl) (fun w9 hS => ?_) (fun w9 hS => (HJB.out _ w9 (HT2.out w9 hS.bel)).mono fun e w' ⟨q1, q2⟩ => ⟨q1, hS.below q2⟩) ?_
         | refine w_callg (f := 13) (args := #[.agg (row yb), .slice a1 (l.length - c1) 0]) (by rfl) (by rfl) (fun w9 hS => ?_) (fun w9 hS => (HJB.out _ w9 (HT2.out w9 hS.bel)).mono fun e w' ⟨q1, q2⟩ => ⟨q1, hS.below q2⟩) ?_
       · clear hS
         go_simp
       simp only [Act.put, List.setIfInBounds_toArray, List.set_cons_zero, List.set_cons_succ]))
  refine w_end ?_
  intro W6 T6
  have K6 := Lib.hid T6
  clear T6 K5
  go_wp2_with (first
    | (refine wpList_load_roww 27 (.tmp 7) rfl _ rfl (by rfl) _ _ _ _ (K6.out.at_ (u0.heap.size, xa) (by simp)) Try.underlying27 rfl (info_chunk32 _ LA.out) ?_)
    | (refine wpList_load_roww 27 (.tmp 9) rfl _ rfl (by rfl) _ _ _ _ (K6.out.at_ (u1.heap.size, xb) (by simp)) Try.underlying27 rfl (info_chunk32 _ LB.out) ?_)
    | (go_at_call 15; refine (HJ.out _).mono ?_; rintro e5 u3 ⟨rfl, b5⟩; have K7 := Lib.hid (K6.out.below b5); clear b5 K6; refine Hid.out ?_))
  refine Lib.hid ?_
  go_wp2_with (first
    | (refine wpList_store_row rfl 27 (.tmp 14) (.tmp 91) rfl u3.heap.size (row xj) rfl rfl _ _ (rowAt_new _ _ zero32) (info_chunk32 _ LJ.out) (by rw [row_size, row_size, LJ.out]; rfl) (row_one _) ?_; refine with_worldL (Vs w [(u3.heap.size, xj), (u2.heap.size, ya), (u2.heap.size + 1, yb), (u1.heap.size, xb), (u0.heap.size, xa)]) (K7.out.new xj) fun W8 hW => ?_; have K8 := Lib.hid hW; clear hW K7; refine Hid.out ?_))
  refine Lib.hid ?_
  go_wp2
  have Q0 := Lib.hid (K8.out.below (below_drew _))
  refine h_start (S := Vs w [(u3.heap.size, xj), (u2.heap.size, ya), (u2.heap.size + 1, yb), (u1.heap.size, xb), (u0.heap.size, xa)]) (by kernel_rfl) ?_
  refine h_val (i := 0) (v := .int .i64 0) rfl (by kernel_rfl) (by kernel_rfl) (by kernel_rfl) (fun _ _ _ h => h) (by rfl) (fun w9 hS => ?_) Q0.out ?_
  · clear hS
    go_simp
  go_frame
  refine h_val (i := 1) (v := .bool true) rfl (by kernel_rfl) (by kernel_rfl) (by kernel_rfl) (fun _ _ _ h => h) (by rfl) (fun w9 hS => ?_) Q0.out ?_
  · clear hS
    go_simp
  go_frame
  refine h_val (i := 2) (v := .bool true) rfl (by kernel_rfl) (by kernel_rfl) (by kernel_rfl) (fun _ _ _ h => h) (by rfl) (fun w9 hS => ?_) Q0.out ?_
  · clear hS
    go_simp
  go_frame
  refine h_val (i := 3) (v := .agg (row xj)) rfl (by kernel_rfl) (by kernel_rfl) (by kernel_rfl) (fun _ _ _ h => h) (by rfl) (fun w9 hS => x_load 27 (.tmp 14) rfl _ rfl _ _ _ _ (hS.at_ (u3.heap.size, xj) (by simp)) Try.underlying27 rfl (info_chunk32 _ LJ.out)) Q0.out ?_
  go_frame
  refine h_val (i := 5) (v := .slice a1 l.length c1) rfl (by kernel_rfl) (by kernel_rfl) (by kernel_rfl) (fun _ _ _ h => h) (by rfl) (fun w9 hS => ?_) Q0.out ?_
  · clear hS
    go_simp
  go_frame
  refine h_val (i := 7) (v := .slice a2 m.length c2) rfl (by kernel_rfl) (by kernel_rfl) (by kernel_rfl) (fun _ _ _ h => h) (by rfl) (fun w9 hS => ?_) Q0.out ?_
  · clear hS
    go_simp
  go_frame
  refine h_step (i := 4) rfl (by kernel_rfl) (by rfl) (fun K hK => ?_)
  go_simp
  refine hK _ _ (Q0.out.below ((Below.refl _ _).alloc (Nat.le_refl _) _)) ?_
  clear hK K
  refine h_step (i := 6) rfl (by kernel_rfl) (by rfl) (fun K hK => ?_)
  refine wp_append_ints (.tmp 123) (.tmp 124) 22 rfl W8.drew.heap.size 21 i0 (.int .i32 0) 4 Try.underlying22 ki kz0 kz1 kz2 rfl _ 0 [] rfl (owns_empty W8.drew 21) _ .i32 l rfl (H1.out.below (Q0.out.below ((Below.refl _ _).alloc (Nat.le_refl _) _)).bel) (by unfold maxLen; omega) (by omega) (by simp) ?_
  intro v1 w1 o1 g1
  have D1 := Lib.hid (((Below.refl W8.drew.heap.size W8.drew).alloc (Nat.le_refl _) (.cells #[] 21)).grown g1 (by simp) (fun k hk => ((owns_empty W8.drew 21).lt k hk).1))
  have A1 := Lib.hid (show w1.ownsRow W8.drew.heap.size 21 1 v1 l.length (l.map (Value.int .i32)) by simpa using o1)
  have Q1 := Lib.hid (Q0.out.below D1.out)
  refine hK _ _ Q1.out ?_
  clear hK K o1 g1
  go_frame
  refine h_step (i := 8) rfl (by kernel_rfl) (by rfl) (fun K hK => ?_)
  refine wp_append_ints (.tmp 125) (.tmp 126) 22 rfl W8.drew.heap.size 21 i0 (.int .i32 0) 4 Try.underlying22 ki kz0 kz1 kz2 rfl _ l.length _ rfl A1.out _ .i32 m rfl (H2.out.below Q1.out.bel) (by unfold maxLen; omega) (by omega) D1.out.size ?_
  intro v2 w2 o2 g2
  have D2 := Lib.hid (D1.out.grown g2 D1.out.size (fun k hk => (A1.out.lt k hk).1))
  have A2 := Lib.hid (show Ints .i32 w2 v2 (l ++ m) from ints_of_owns (base := W8.drew.heap.size) (e := 21) (by simpa using o2))
  have Q2 := Lib.hid (Q0.out.below D2.out)
  refine hK _ _ Q2.out ?_
  clear hK K o2 g2 Q1 A1 D1 D2 Q0
  go_frame
  refine h_call (i := 9) (f := 13) (args := #[.agg (row xj), v2]) rfl (by kernel_rfl) (by rfl) (by go_simp) ?_
  refine (HIJ.out v2 _ A2.out).mono ?_
  rintro e9 w9 ⟨rfl, b9⟩
  have Q3 := Lib.hid (Q2.out.below b9)
  refine ⟨_, rfl, Q3.out, ?_⟩
  clear b9 Q2 A2
  go_frame
  refine h_val (i := 10) (v := .bool true) rfl (by kernel_rfl) (by kernel_rfl) (by kernel_rfl) (fun _ _ _ h => h) (by rfl) (fun w9 hS => ?_) Q3.out ?_
  · clear hS
    go_simp
  go_frame
  refine h_val (i := 11) (v := .bool true) rfl (by kernel_rfl) (by kernel_rfl) (by kernel_rfl) (fun _ _ _ h => h) (by rfl) (fun w9 hS => ?_) Q3.out ?_
  · clear hS
    go_simp
  go_frame
  refine h_val (i := 12) (v := .agg (row xa)) rfl (by kernel_rfl) (by kernel_rfl) (by kernel_rfl) (fun _ _ _ h => h) (by rfl) (fun w9 hS => x_load 27 (.tmp 7) rfl _ rfl _ _ _ _ (hS.at_ (u0.heap.size, xa) (by simp)) Try.underlying27 rfl (info_chunk32 _ LA.out)) Q3.out ?_
  go_frame
  refine h_val (i := 13) (v := .slice a1 l.length c1) rfl (by kernel_rfl) (by kernel_rfl) (by kernel_rfl) (fun _ _ _ h => h) (by rfl) (fun w9 hS => ?_) Q3.out ?_
  · clear hS
    go_simp
  go_frame
  refine h_call (i := 14) (f := 13) (args := #[.agg (row xa), .slice a1 l.length c1]) rfl (by kernel_rfl) (by rfl) (by go_simp) ?_
  refine (HIA.out _ _ (H1.out.below Q3.out.bel)).mono ?_
  rintro e10 w10 ⟨rfl, b9⟩
  have Q4 := Lib.hid (Q3.out.below b9)
  refine ⟨_, rfl, Q4.out, ?_⟩
  clear b9 Q3
  go_frame
  refine h_val (i := 15) (v := .bool true) rfl (by kernel_rfl) (by kernel_rfl) (by kernel_rfl) (fun _ _ _ h => h) (by rfl) (fun w9 hS => ?_) Q4.out ?_
  · clear hS
    go_simp
  go_frame
  refine h_val (i := 16) (v := .bool true) rfl (by kernel_rfl) (by kernel_rfl) (by kernel_rfl) (fun _ _ _ h => h) (by rfl) (fun w9 hS => ?_) Q4.out ?_
  · clear hS
    go_simp
  go_frame
  refine h_val (i := 17) (v := .agg (row xb)) rfl (by kernel_rfl) (by kernel_rfl) (by kernel_rfl) (fun _ _ _ h => h) (by rfl) (fun w9 hS => x_load 27 (.tmp 9) rfl _ rfl _ _ _ _ (hS.at_ (u1.heap.size, xb) (by simp)) Try.underlying27 rfl (info_chunk32 _ LB.out)) Q4.out ?_
  go_frame
  refine h_val (i := 18) (v := .slice a2 m.length c2) rfl (by kernel_rfl) (by kernel_rfl) (by kernel_rfl) (fun _ _ _ h => h) (by rfl) (fun w9 hS => ?_) Q4.out ?_
  · clear hS
    go_simp
  go_frame
  refine h_call (i := 19) (f := 13) (args := #[.agg (row xb), .slice a2 m.length c2]) rfl (by kernel_rfl) (by rfl) (by go_simp) ?_
  refine (HIB.out _ _ (H2.out.below Q4.out.bel)).mono ?_
  rintro e11 w11 ⟨rfl, b9⟩
  have Q5 := Lib.hid (Q4.out.below b9)
  refine ⟨_, rfl, Q5.out, ?_⟩
  clear b9 Q4
  go_frame
  refine h_val (i := 20) (v := .bool true) rfl (by kernel_rfl) (by kernel_rfl) (by kernel_rfl) (fun _ _ _ h => h) (by rfl) (fun w9 hS => ?_) Q5.out ?_
  · clear hS
    go_simp
  go_frame
  refine h_val (i := 21) (v := .bool true) rfl (by kernel_rfl) (by kernel_rfl) (by kernel_rfl) (fun _ _ _ h => h) (by rfl) (fun w9 hS => ?_) Q5.out ?_
  · clear hS
    go_simp
  go_frame
  refine h_call (i := 22) (f := 9) (args := #[]) rfl (by kernel_rfl) (by rfl) (by go_simp) ?_
  refine (HK.out _).mono ?_
  rintro e12 w12 ⟨rfl, b9⟩
  have Q6 := Lib.hid (Q5.out.below b9)
  refine ⟨_, rfl, Q6.out, ?_⟩
  clear b9 Q5
  go_frame
  refine h_val (i := 23) (v := .bool true) rfl (by kernel_rfl) (by kernel_rfl) (by kernel_rfl) (fun _ _ _ h => h) (by rfl) (fun w9 hS => ?_) Q6.out ?_
  · clear hS
    go_simp
  go_frame
  refine h_val (i := 24) (v := .bool true) rfl (by kernel_rfl) (by kernel_rfl) (by kernel_rfl) (fun _ _ _ h => h) (by rfl) (fun w9 hS => ?_) Q6.out ?_
  · clear hS
    go_simp
  go_frame
  refine h_done (by kernel_rfl) ?_
  go_wp2
  go_ret
  exact ⟨rfl, Q6.out.bel⟩

set_option maxRecDepth 100000 in
set_option maxHeartbeats 4000000 in
theorem splits_inn_fit (v1 v2 : Value) (l m : List Int) (j : Nat) (w : World) (h1 : Ints .i32 w v1 l) (h2 : Ints .i32 w v2 m) (he : ofE l = 0) (hf : ofE m = 0) (hi : j ≤ l.length) (hsh : ∃ c1 a1, v1 = .slice a1 l.length c1 ∧ ¬ c1 = j) (hfit : l.length + m.length ≤ 32) :
    Calls Try.prog 4 #[v1, v2, .int .i64 j] w fun e w' => e = .returned (.bool true) ∧ Below w.heap.size w w' := by
  obtain ⟨i0, ki, kz0, kz1, kz2⟩ := info_parts info32
  have cl := chunky_of he
  have cm := chunky_of hf
  have hl32 := cl.1
  have hm32 := cm.1
  have H1 := Lib.hid h1
  have H2 := Lib.hid h2
  have ho1 := of_any v1 l w h1
  have ho2 := fun v w h => of_any v m w h
  rw [ofV_ok he] at ho1
  rw [ofV_ok hf] at ho2
  have HO1 := Lib.hid ho1
  have HO2 := Lib.hid ho2
  have HSP := Lib.hid (fun w => split_any l cl j w)
  have LA := Lib.hid (slots_len cl.1)
  have LB := Lib.hid (slots_len cm.1)
  have LZ := Lib.hid zero32_len
  have HK := Lib.hid (fun w => known9_any w)
  have HIA := Lib.hid (fun v w h => is_any l cl v w h)
  have HIB := Lib.hid (fun v w h => is_any m cm v w h)
  have hqe : ∀ A : Array Value, A = row zero32 → ∀ w, (binOp .eql 27 (.agg A) (.agg (row zero32))).run Try.prog w = .ok (.bool true) w := by
    intro A hA w
    rw [hA, chunk_eql zero32 zero32 LZ.out LZ.out w]; rfl
  have hqn : ∀ A : Array Value, A = row zero32 → ∀ w, (binOp .neq 27 (.agg A) (.agg (row zero32))).run Try.prog w = .ok (.bool false) w := by
    intro A hA w
    rw [hA, chunk_neq zero32 zero32 LZ.out LZ.out w]; rfl
  simp only [row, zero32, List.replicate, List.map] at hqe hqn
  obtain ⟨c1, a1, rfl, hce⟩ := hsh
  obtain ⟨a2, c2, rfl⟩ := h2.shape
  have g0 : ¬ (1000 : Int) < l.length := by omega
  have g1 : ¬ (1000 : Int) < m.length := by omega
  have hjl : j ≤ l.length := by omega
  have g2 : decide ((j : Int) < 0) = false := by rw [decide_eq_false_iff_not]; omega
  have g3 : decide (l.length < j) = false := by rw [decide_eq_false_iff_not]; omega
  have i0' : (0 : Int) ≤ (j : Int) := by omega
  have i1' : (j : Int) ≤ l.length := by omega
  have ca := cl.take j
  have cb := cl.drop j
  rw [show splA l (j : Int) = l.take j by unfold splA; rw [if_pos (by omega), Int.toNat_natCast], show splB l (j : Int) = l.drop j by unfold splB; rw [if_pos (by omega), Int.toNat_natCast], show splE l (j : Int) = 0 by unfold splE; rw [if_pos (by omega)]] at HSP
  have HJA := Lib.hid (fun v w h => is_any (l.take j) ca v w h)
  have HJB := Lib.hid (fun v w h => is_any (l.drop j) cb v w h)
  have LYA := Lib.hid (slots_len ca.1)
  have LYB := Lib.hid (slots_len cb.1)
  obtain ⟨hcap, hcapm⟩ : l.length ≤ c1 ∧ c1 ≤ maxLen := by
    rcases h1 with ⟨a', c', hv, hx, hm', _⟩ | ⟨b, off, c', hv, _, hx, hm', _⟩
    · injection hv with e1 e2 e3; subst e3; rw [hx]; exact ⟨Nat.zero_le _, hm'⟩
    · injection hv with e1 e2 e3; subst e3; exact ⟨hx, hm'⟩
  have i2' : (j : Int) ≤ c1 := by omega
  have HT1 := Lib.hid (fun W (hb : Below w.heap.size w W) => ints_head (H1.out.below hb) hjl)
  have hce' := hce
  have HT2 := Lib.hid (fun W (hb : Below w.heap.size w W) => (Ints.tail (H1.out.below hb) hjl).2 hce)
  unfold cv at HSP HIA HIB HJA HJB
  obtain ⟨ya, hya⟩ : ∃ xs, slots (l.take j) = xs := ⟨_, rfl⟩
  obtain ⟨yb, hyb⟩ : ∃ xs, slots (l.drop j) = xs := ⟨_, rfl⟩
  rw [hya] at HSP HJA LYA
  rw [hyb] at HSP HJB LYB
  clear hya hyb ca cb
  have call := cl.app cm hfit
  have HJ := Lib.hid (fun w => join_fit l m cl cm hfit w)
  have HIJ := Lib.hid (fun v w h => is_any (l ++ m) call v w h)
  have LJ := Lib.hid (slots_len call.1)
  have g4 : ¬ (32 : Int) < l.length + m.length := by omega
  unfold cv at HJ HIJ
  obtain ⟨xj, hxj⟩ : ∃ xs, slots (l ++ m) = xs := ⟨_, rfl⟩
  rw [hxj] at HJ HIJ LJ
  clear hxj call
  obtain ⟨xa, hxa⟩ : ∃ xs, slots l = xs := ⟨_, rfl⟩
  obtain ⟨xb, hxb⟩ : ∃ xs, slots m = xs := ⟨_, rfl⟩
  rw [hxa] at HO1 LA HSP HJ HIA
  rw [hxb] at HO2 LB HJ HIB
  clear hxa hxb h1 h2 ho1 ho2 cl cm he hf hqe hqn
  go_enter Try.func4, Try.ntmps4
  go_wp2_with (first
    | (go_at_call 10; refine HO1.out.mono ?_; rintro e1 u0 ⟨rfl, b1⟩; have K0 := Lib.hid ((Vs.none w).below b1); clear b1 HO1; refine Hid.out ?_))
  refine Lib.hid ?_
  go_wp2_with (first
    | (refine wpList_store_row rfl 27 (.tmp 7) (.tmp 28) rfl u0.heap.size (row xa) rfl rfl _ _ (rowAt_new _ _ zero32) (info_chunk32 _ LA.out) (by rw [row_size, row_size, LA.out]; rfl) (row_one _) ?_; refine with_worldL (Vs w [(u0.heap.size, xa)]) (K0.out.new xa) fun W hW => ?_; have K1 := Lib.hid hW; clear hW K0; refine Hid.out ?_))
  refine Lib.hid ?_
  go_wp2_with (first
    | (go_at_call 10; refine (HO2.out _ _ (H2.out.below K1.out.bel)).mono ?_; rintro e1 u1 ⟨rfl, b1⟩; have K2 := Lib.hid (K1.out.below b1); clear b1 HO2 K1; refine Hid.out ?_))
  refine Lib.hid ?_
  go_wp2_with (first
    | (refine wpList_store_row rfl 27 (.tmp 9) (.tmp 33) rfl u1.heap.size (row xb) rfl rfl _ _ (rowAt_new _ _ zero32) (info_chunk32 _ LB.out) (by rw [row_size, row_size, LB.out]; rfl) (row_one _) ?_; refine with_worldL (Vs w [(u1.heap.size, xb), (u0.heap.size, xa)]) (K2.out.new xb) fun W hW => ?_; have K3 := Lib.hid hW; clear hW K2; refine Hid.out ?_))
  refine Lib.hid ?_
  go_wp2_with (first
    | (refine wpList_load_roww 27 (.tmp 7) rfl _ rfl (by rfl) _ _ _ _ (K3.out.at_ (u0.heap.size, xa) (by simp)) Try.underlying27 rfl (info_chunk32 _ LA.out) ?_)
    | (go_at_call 14; refine (HSP.out _).mono ?_; rintro e2 u2 ⟨rfl, b3⟩; have K4 := Lib.hid (K3.out.below b3); have KF := Lib.hid (two_rows (W := u2) ya); clear b3 K3; refine Hid.out ?_))
  refine Lib.hid ?_
  go_wp2_with (first
    | (refine wpList_store_row rfl 27 (.tmp 11) (.tmp 46) rfl u2.heap.size (row ya) rfl rfl _ _ KF.out.1 (info_chunk32 _ LYA.out) (by rw [row_size, row_size, LYA.out]; rfl) (row_one _) ?_)
    | (refine wpList_store_row rfl 27 (.tmp 12) (.tmp 47) rfl (u2.heap.size + 1) (row yb) rfl rfl _ _ KF.out.2 (info_chunk32 _ LYB.out) (by rw [row_size, row_size, LYB.out]; rfl) (row_one _) ?_; refine with_worldL (Vs w [(u2.heap.size, ya), (u2.heap.size + 1, yb), (u1.heap.size, xb), (u0.heap.size, xa)]) (K4.out.two ya yb) fun W4 hW => ?_; have K5 := Lib.hid hW; clear hW K4 KF; refine Hid.out ?_))
  refine Lib.hid ?_
  go_wp2
  refine region_classw (C := Vs w [(u2.heap.size, ya), (u2.heap.size + 1, yb), (u1.heap.size, xb), (u0.heap.size, xa)]) (by kernel_rfl) (by kernel_rfl) (K5.out.below (below_drew _)) ?_
  repeat (first
    | (first
         | refine w_skip (by rfl) (by rfl) ?_
         | refine w_skipn (by rfl) (by rfl) ?_
       simp only [Act.put, List.setIfInBounds_toArray, List.set_cons_zero, List.set_cons_succ])
    | (first
         | refine w_val (v := .agg (row ya)) (by rfl) (fun w9 hS => x_load 27 (.tmp 11) rfl _ rfl _ _ _ _ (hS.at_ (u2.heap.size, ya) (by simp)) Try.underlying27 rfl (info_chunk32 _ LYA.out)) ?_
         | refine w_valg (v := .agg (row ya)) (by rfl) (by rfl) (fun w9 hS => x_load 27 (.tmp 11) rfl _ rfl _ _ _ _ (hS.at_ (u2.heap.size, ya) (by simp)) Try.underlying27 rfl (info_chunk32 _ LYA.out)) ?_
       simp only [Act.put, List.setIfInBounds_toArray, List.set_cons_zero, List.set_cons_succ])
    | (first
         | refine w_val (v := .agg (row yb)) (by rfl) (fun w9 hS => x_load 27 (.tmp 12) rfl _ rfl _ _ _ _ (hS.at_ (u2.heap.size + 1, yb) (by simp)) Try.underlying27 rfl (info_chunk32 _ LYB.out)) ?_
         | refine w_valg (v := .agg (row yb)) (by rfl) (by rfl) (fun w9 hS => x_load 27 (.tmp 12) rfl _ rfl _ _ _ _ (hS.at_ (u2.heap.size + 1, yb) (by simp)) Try.underlying27 rfl (info_chunk32 _ LYB.out)) ?_
       simp only [Act.put, List.setIfInBounds_toArray, List.set_cons_zero, List.set_cons_succ])
    | (first
         | refine w_val (v := ?_) (by rfl) (fun w9 hS => ?_) ?_
         | refine w_valg (v := ?_) (by rfl) (by rfl) (fun w9 hS => ?_) ?_
       rotate_left
       · clear hS
         go_simp
         try with_reducible rfl
       simp only [Act.put, List.setIfInBounds_toArray, List.set_cons_zero, List.set_cons_succ])
    | (first
         | refine w_call (f := 13) (args := #[.agg (row ya), .slice a1 j c1]) (by rfl) (fun w9 hS => ?_) (fun w9 hS => (HJA.out _ w9 (HT1.out w9 hS.bel)).mono fun e w' ⟨q1, q2⟩ => ⟨q1, hS.below q2⟩) ?_
         | refine w_callg (f := 13) (args := #[.agg (row ya), .slice a1 j c1]) (by rfl) (by rfl) (fun w9 hS => ?_) (fun w9 hS => (HJA.out _ w9 (HT1.out w9 hS.bel)).mono fun e w' ⟨q1, q2⟩ => ⟨q1, hS.below q2⟩) ?_
       · clear hS
         go_simp
       simp only [Act.put, List.setIfInBounds_toArray, List.set_cons_zero, List.set_cons_succ])
    | (first
         | refine w_call (f := 13) (args := #[.agg (row yb), .slice (a1.map (·.add j)) (l.length - j) (c1 - j)]) (by rfl) (fun w9 hS => ?_) (fun w9 hS => (HJB.out _ w9 (HT2.out w9 hS.bel)).mono fun e w' ⟨q1, q2⟩ => ⟨q1, hS.below q2⟩) ?_
         | refine w_callg (f := 13) (args := #[.agg (row yb), .slice (a1.map (·.add j)) (l.length - j) (c1 - j)]) (by rfl) (by rfl) (fun w9 hS => ?_) (fun w9 hS => (HJB.out _ w9 (HT2.out w9 hS.bel)).mono fun e w' ⟨q1, q2⟩ => ⟨q1, hS.below q2⟩) ?_
       · clear hS
         go_simp
       simp only [Act.put, List.setIfInBounds_toArray, List.set_cons_zero, List.set_cons_succ]))
  refine w_end ?_
  intro W6 T6
  have K6 := Lib.hid T6
  clear T6 K5
  go_wp2_with (first
    | (refine wpList_load_roww 27 (.tmp 7) rfl _ rfl (by rfl) _ _ _ _ (K6.out.at_ (u0.heap.size, xa) (by simp)) Try.underlying27 rfl (info_chunk32 _ LA.out) ?_)
    | (refine wpList_load_roww 27 (.tmp 9) rfl _ rfl (by rfl) _ _ _ _ (K6.out.at_ (u1.heap.size, xb) (by simp)) Try.underlying27 rfl (info_chunk32 _ LB.out) ?_)
    | (go_at_call 15; refine (HJ.out _).mono ?_; rintro e5 u3 ⟨rfl, b5⟩; have K7 := Lib.hid (K6.out.below b5); clear b5 K6; refine Hid.out ?_))
  refine Lib.hid ?_
  go_wp2_with (first
    | (refine wpList_store_row rfl 27 (.tmp 14) (.tmp 91) rfl u3.heap.size (row xj) rfl rfl _ _ (rowAt_new _ _ zero32) (info_chunk32 _ LJ.out) (by rw [row_size, row_size, LJ.out]; rfl) (row_one _) ?_; refine with_worldL (Vs w [(u3.heap.size, xj), (u2.heap.size, ya), (u2.heap.size + 1, yb), (u1.heap.size, xb), (u0.heap.size, xa)]) (K7.out.new xj) fun W8 hW => ?_; have K8 := Lib.hid hW; clear hW K7; refine Hid.out ?_))
  refine Lib.hid ?_
  go_wp2
  have Q0 := Lib.hid (K8.out.below (below_drew _))
  refine h_start (S := Vs w [(u3.heap.size, xj), (u2.heap.size, ya), (u2.heap.size + 1, yb), (u1.heap.size, xb), (u0.heap.size, xa)]) (by kernel_rfl) ?_
  refine h_val (i := 0) (v := .int .i64 0) rfl (by kernel_rfl) (by kernel_rfl) (by kernel_rfl) (fun _ _ _ h => h) (by rfl) (fun w9 hS => ?_) Q0.out ?_
  · clear hS
    go_simp
  go_frame
  refine h_val (i := 1) (v := .bool true) rfl (by kernel_rfl) (by kernel_rfl) (by kernel_rfl) (fun _ _ _ h => h) (by rfl) (fun w9 hS => ?_) Q0.out ?_
  · clear hS
    go_simp
  go_frame
  refine h_val (i := 2) (v := .bool true) rfl (by kernel_rfl) (by kernel_rfl) (by kernel_rfl) (fun _ _ _ h => h) (by rfl) (fun w9 hS => ?_) Q0.out ?_
  · clear hS
    go_simp
  go_frame
  refine h_val (i := 3) (v := .agg (row xj)) rfl (by kernel_rfl) (by kernel_rfl) (by kernel_rfl) (fun _ _ _ h => h) (by rfl) (fun w9 hS => x_load 27 (.tmp 14) rfl _ rfl _ _ _ _ (hS.at_ (u3.heap.size, xj) (by simp)) Try.underlying27 rfl (info_chunk32 _ LJ.out)) Q0.out ?_
  go_frame
  refine h_val (i := 5) (v := .slice a1 l.length c1) rfl (by kernel_rfl) (by kernel_rfl) (by kernel_rfl) (fun _ _ _ h => h) (by rfl) (fun w9 hS => ?_) Q0.out ?_
  · clear hS
    go_simp
  go_frame
  refine h_val (i := 7) (v := .slice a2 m.length c2) rfl (by kernel_rfl) (by kernel_rfl) (by kernel_rfl) (fun _ _ _ h => h) (by rfl) (fun w9 hS => ?_) Q0.out ?_
  · clear hS
    go_simp
  go_frame
  refine h_step (i := 4) rfl (by kernel_rfl) (by rfl) (fun K hK => ?_)
  go_simp
  refine hK _ _ (Q0.out.below ((Below.refl _ _).alloc (Nat.le_refl _) _)) ?_
  clear hK K
  refine h_step (i := 6) rfl (by kernel_rfl) (by rfl) (fun K hK => ?_)
  refine wp_append_ints (.tmp 123) (.tmp 124) 22 rfl W8.drew.heap.size 21 i0 (.int .i32 0) 4 Try.underlying22 ki kz0 kz1 kz2 rfl _ 0 [] rfl (owns_empty W8.drew 21) _ .i32 l rfl (H1.out.below (Q0.out.below ((Below.refl _ _).alloc (Nat.le_refl _) _)).bel) (by unfold maxLen; omega) (by omega) (by simp) ?_
  intro v1 w1 o1 g1
  have D1 := Lib.hid (((Below.refl W8.drew.heap.size W8.drew).alloc (Nat.le_refl _) (.cells #[] 21)).grown g1 (by simp) (fun k hk => ((owns_empty W8.drew 21).lt k hk).1))
  have A1 := Lib.hid (show w1.ownsRow W8.drew.heap.size 21 1 v1 l.length (l.map (Value.int .i32)) by simpa using o1)
  have Q1 := Lib.hid (Q0.out.below D1.out)
  refine hK _ _ Q1.out ?_
  clear hK K o1 g1
  go_frame
  refine h_step (i := 8) rfl (by kernel_rfl) (by rfl) (fun K hK => ?_)
  refine wp_append_ints (.tmp 125) (.tmp 126) 22 rfl W8.drew.heap.size 21 i0 (.int .i32 0) 4 Try.underlying22 ki kz0 kz1 kz2 rfl _ l.length _ rfl A1.out _ .i32 m rfl (H2.out.below Q1.out.bel) (by unfold maxLen; omega) (by omega) D1.out.size ?_
  intro v2 w2 o2 g2
  have D2 := Lib.hid (D1.out.grown g2 D1.out.size (fun k hk => (A1.out.lt k hk).1))
  have A2 := Lib.hid (show Ints .i32 w2 v2 (l ++ m) from ints_of_owns (base := W8.drew.heap.size) (e := 21) (by simpa using o2))
  have Q2 := Lib.hid (Q0.out.below D2.out)
  refine hK _ _ Q2.out ?_
  clear hK K o2 g2 Q1 A1 D1 D2 Q0
  go_frame
  refine h_call (i := 9) (f := 13) (args := #[.agg (row xj), v2]) rfl (by kernel_rfl) (by rfl) (by go_simp) ?_
  refine (HIJ.out v2 _ A2.out).mono ?_
  rintro e9 w9 ⟨rfl, b9⟩
  have Q3 := Lib.hid (Q2.out.below b9)
  refine ⟨_, rfl, Q3.out, ?_⟩
  clear b9 Q2 A2
  go_frame
  refine h_val (i := 10) (v := .bool true) rfl (by kernel_rfl) (by kernel_rfl) (by kernel_rfl) (fun _ _ _ h => h) (by rfl) (fun w9 hS => ?_) Q3.out ?_
  · clear hS
    go_simp
  go_frame
  refine h_val (i := 11) (v := .bool true) rfl (by kernel_rfl) (by kernel_rfl) (by kernel_rfl) (fun _ _ _ h => h) (by rfl) (fun w9 hS => ?_) Q3.out ?_
  · clear hS
    go_simp
  go_frame
  refine h_val (i := 12) (v := .agg (row xa)) rfl (by kernel_rfl) (by kernel_rfl) (by kernel_rfl) (fun _ _ _ h => h) (by rfl) (fun w9 hS => x_load 27 (.tmp 7) rfl _ rfl _ _ _ _ (hS.at_ (u0.heap.size, xa) (by simp)) Try.underlying27 rfl (info_chunk32 _ LA.out)) Q3.out ?_
  go_frame
  refine h_val (i := 13) (v := .slice a1 l.length c1) rfl (by kernel_rfl) (by kernel_rfl) (by kernel_rfl) (fun _ _ _ h => h) (by rfl) (fun w9 hS => ?_) Q3.out ?_
  · clear hS
    go_simp
  go_frame
  refine h_call (i := 14) (f := 13) (args := #[.agg (row xa), .slice a1 l.length c1]) rfl (by kernel_rfl) (by rfl) (by go_simp) ?_
  refine (HIA.out _ _ (H1.out.below Q3.out.bel)).mono ?_
  rintro e10 w10 ⟨rfl, b9⟩
  have Q4 := Lib.hid (Q3.out.below b9)
  refine ⟨_, rfl, Q4.out, ?_⟩
  clear b9 Q3
  go_frame
  refine h_val (i := 15) (v := .bool true) rfl (by kernel_rfl) (by kernel_rfl) (by kernel_rfl) (fun _ _ _ h => h) (by rfl) (fun w9 hS => ?_) Q4.out ?_
  · clear hS
    go_simp
  go_frame
  refine h_val (i := 16) (v := .bool true) rfl (by kernel_rfl) (by kernel_rfl) (by kernel_rfl) (fun _ _ _ h => h) (by rfl) (fun w9 hS => ?_) Q4.out ?_
  · clear hS
    go_simp
  go_frame
  refine h_val (i := 17) (v := .agg (row xb)) rfl (by kernel_rfl) (by kernel_rfl) (by kernel_rfl) (fun _ _ _ h => h) (by rfl) (fun w9 hS => x_load 27 (.tmp 9) rfl _ rfl _ _ _ _ (hS.at_ (u1.heap.size, xb) (by simp)) Try.underlying27 rfl (info_chunk32 _ LB.out)) Q4.out ?_
  go_frame
  refine h_val (i := 18) (v := .slice a2 m.length c2) rfl (by kernel_rfl) (by kernel_rfl) (by kernel_rfl) (fun _ _ _ h => h) (by rfl) (fun w9 hS => ?_) Q4.out ?_
  · clear hS
    go_simp
  go_frame
  refine h_call (i := 19) (f := 13) (args := #[.agg (row xb), .slice a2 m.length c2]) rfl (by kernel_rfl) (by rfl) (by go_simp) ?_
  refine (HIB.out _ _ (H2.out.below Q4.out.bel)).mono ?_
  rintro e11 w11 ⟨rfl, b9⟩
  have Q5 := Lib.hid (Q4.out.below b9)
  refine ⟨_, rfl, Q5.out, ?_⟩
  clear b9 Q4
  go_frame
  refine h_val (i := 20) (v := .bool true) rfl (by kernel_rfl) (by kernel_rfl) (by kernel_rfl) (fun _ _ _ h => h) (by rfl) (fun w9 hS => ?_) Q5.out ?_
  · clear hS
    go_simp
  go_frame
  refine h_val (i := 21) (v := .bool true) rfl (by kernel_rfl) (by kernel_rfl) (by kernel_rfl) (fun _ _ _ h => h) (by rfl) (fun w9 hS => ?_) Q5.out ?_
  · clear hS
    go_simp
  go_frame
  refine h_call (i := 22) (f := 9) (args := #[]) rfl (by kernel_rfl) (by rfl) (by go_simp) ?_
  refine (HK.out _).mono ?_
  rintro e12 w12 ⟨rfl, b9⟩
  have Q6 := Lib.hid (Q5.out.below b9)
  refine ⟨_, rfl, Q6.out, ?_⟩
  clear b9 Q5
  go_frame
  refine h_val (i := 23) (v := .bool true) rfl (by kernel_rfl) (by kernel_rfl) (by kernel_rfl) (fun _ _ _ h => h) (by rfl) (fun w9 hS => ?_) Q6.out ?_
  · clear hS
    go_simp
  go_frame
  refine h_val (i := 24) (v := .bool true) rfl (by kernel_rfl) (by kernel_rfl) (by kernel_rfl) (fun _ _ _ h => h) (by rfl) (fun w9 hS => ?_) Q6.out ?_
  · clear hS
    go_simp
  go_frame
  refine h_done (by kernel_rfl) ?_
  go_wp2
  go_ret
  exact ⟨rfl, Q6.out.bel⟩

theorem splits_walk (v1 v2 : Value) (l m : List Int) (i : Int) (w : World) (h1 : Ints .i32 w v1 l) (h2 : Ints .i32 w v2 m) :
    Calls Try.prog 4 #[v1, v2, .int .i64 i] w fun e w' => e = .returned (.bool true) ∧ Below w.heap.size w w' := by
  by_cases hl : 1000 < l.length ∨ 1000 < m.length
  · exact splits_long v1 v2 l m i w h1 h2 hl
  by_cases he : ofE l ≠ 0 ∨ ofE m ≠ 0
  · exact splits_none v1 v2 l m i w h1 h2 (by omega) (by omega) he
  have he0 : ofE l = 0 := by omega
  have hf0 : ofE m = 0 := by omega
  by_cases hn : i < 0
  · by_cases hfit : 32 < l.length + m.length
    · exact splits_neg_long v1 v2 l m i w h1 h2 he0 hf0 hn hfit
    · exact splits_neg_fit v1 v2 l m i w h1 h2 he0 hf0 hn (by omega)
  by_cases hp : (l.length : Int) < i
  · by_cases hfit : 32 < l.length + m.length
    · exact splits_past_long v1 v2 l m i w h1 h2 he0 hf0 hp hfit
    · exact splits_past_fit v1 v2 l m i w h1 h2 he0 hf0 hp (by omega)
  obtain ⟨j, rfl⟩ : ∃ j : Nat, i = (j : Int) := ⟨i.toNat, by omega⟩
  obtain ⟨a1, c1, hv⟩ := h1.shape
  by_cases hc : c1 = j
  · by_cases hfit : 32 < l.length + m.length
    · exact splits_ine_long v1 v2 l m j w h1 h2 he0 hf0 (by omega) ⟨c1, a1, hv, hc⟩ hfit
    · exact splits_ine_fit v1 v2 l m j w h1 h2 he0 hf0 (by omega) ⟨c1, a1, hv, hc⟩ (by omega)
  · by_cases hfit : 32 < l.length + m.length
    · exact splits_inn_long v1 v2 l m j w h1 h2 he0 hf0 (by omega) ⟨c1, a1, hv, hc⟩ hfit
    · exact splits_inn_fit v1 v2 l m j w h1 h2 he0 hf0 (by omega) ⟨c1, a1, hv, hc⟩ (by omega)
end Go.Proofs.Ytckdmhklnnmjpaa
