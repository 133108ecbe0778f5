
import Derived.Test.YtckdmhklnnmjpaaOM
/- OP: ChunkBack -/
namespace Go.Proofs.Ytckdmhklnnmjpaa
open Go.RowKit
set_option linter.unusedVariables false

/-- What Split answers. -/
def splE (l : List Int) (i : Int) : Int := if 0 ≤ i ∧ i ≤ l.length then 0 else 5
def splA (l : List Int) (i : Int) : List Int := if 0 ≤ i ∧ i ≤ l.length then l.take i.toNat else []
def splB (l : List Int) (i : Int) : List Int := if 0 ≤ i ∧ i ≤ l.length then l.drop i.toNat else []
theorem chunky_A {l : List Int} (h : Chunky l) (i : Int) : Chunky (splA l i) := by unfold splA; split; exact h.take _; exact chunky_nil
theorem chunky_B {l : List Int} (h : Chunky l) (i : Int) : Chunky (splB l i) := by unfold splB; split; exact h.drop _; exact chunky_nil
theorem split_any (l : List Int) (h : Chunky l) (i : Int) (w : World) : Calls Try.prog 14 #[cv l, .int .i64 i] w fun e w' => e = .returned (.tuple #[cv (splA l i), cv (splB l i), .int .i64 (splE l i)]) ∧ Below w.heap.size w w' := by
  unfold splA splB splE
  by_cases h0 : i < 0
  · rw [if_neg (by omega), if_neg (by omega), if_neg (by omega)]; exact split_neg l h i h0 w
  · by_cases h1 : (l.length : Int) < i
    · rw [if_neg (by omega), if_neg (by omega), if_neg (by omega)]; exact split_past l h i h1 w
    · rw [if_pos (by omega), if_pos (by omega), if_pos (by omega)]
      have := split_in l h i.toNat (by omega) w
      rwa [show ((i.toNat : Nat) : Int) = i by omega] at this

theorem back_long (v : Value) (l : List Int) (i : Int) (w : World) (h1 : Ints .i32 w v l) (hl : 1000 < l.length) :
    Calls Try.prog 5 #[v, .int .i64 i] w fun e w' => e = .returned (.bool true) ∧ Below w.heap.size w w' := by
  obtain ⟨a1, c1, rfl⟩ := h1.shape
  have l1 := h1.len
  have HK := Lib.hid (fun w => known9_any w)
  have g0 : (1000 : Int) < l.length := by omega
  clear h1 hl
  go_enter Try.func5, Try.ntmps5
  go_wp2_with (go_at_call 9; refine (HK.out _).mono ?_; rintro e w1 ⟨rfl, b1⟩)
  go_ret
  exact ⟨rfl, b1⟩

set_option maxRecDepth 100000 in
theorem back_none (v : Value) (l : List Int) (i : Int) (w : World) (h1 : Ints .i32 w v l) (hl : l.length ≤ 1000) (he : ofE l ≠ 0 ∨ splE (ofL l) i ≠ 0) :
    Calls Try.prog 5 #[v, .int .i64 i] w fun e w' => e = .returned (.bool true) ∧ Below w.heap.size w w' := by
  have HO1 := Lib.hid (of_any v l w h1)
  have HSP := Lib.hid (fun w => split_any (ofL l) (chunky_ofL l) i w)
  have LX := Lib.hid (len_ofL l)
  have LA := Lib.hid (slots_len (chunky_A (chunky_ofL l) i).1)
  have LB := Lib.hid (slots_len (chunky_B (chunky_ofL l) i).1)
  have HK := Lib.hid (fun w => known9_any w)
  obtain ⟨a1, c1, rfl⟩ := h1.shape
  have g0 : ¬ (1000 : Int) < l.length := by omega
  unfold ofV at HO1
  unfold cv at HO1 HSP
  obtain ⟨e, hee⟩ : ∃ e, ofE l = e := ⟨_, rfl⟩
  obtain ⟨f, hff⟩ : ∃ f, splE (ofL l) i = f := ⟨_, rfl⟩
  obtain ⟨xs, hxs⟩ : ∃ xs, slots (ofL l) = xs := ⟨_, rfl⟩
  obtain ⟨ya, hya⟩ : ∃ ya, slots (splA (ofL l) i) = ya := ⟨_, rfl⟩
  obtain ⟨yb, hyb⟩ : ∃ yb, slots (splB (ofL l) i) = yb := ⟨_, rfl⟩
  rw [hff] at HSP he
  rw [hya, hyb, hxs] at HSP
  rw [hxs, hee] at HO1
  rw [hxs] at LX
  rw [hya] at LA
  rw [hyb] at LB
  rw [hee] at he
  clear hxs hya hyb hee hff h1
  obtain ⟨be, hbe⟩ : ∃ b, (e == 0) = b := ⟨_, rfl⟩
  obtain ⟨bf, hbf⟩ : ∃ b, (f == 0) = b := ⟨_, rfl⟩
  have hbe' : (e != 0) = !be := by simp [bne, hbe]
  have hbf' : (f != 0) = !bf := by simp [bne, hbf]
  have hor : be = false ∨ bf = false := by
    rcases he with h | h
    · left; rw [← hbe]; simp [h]
    · right; rw [← hbf]; simp [h]
  clear he
  cases be <;> cases bf <;> first
    | (rcases hor with h | h <;> cases h; done)
    | (clear hor
       go_enter Try.func5, Try.ntmps5
       go_wp2_with (first
         | (go_at_call 10; refine HO1.out.mono ?_; rintro e1 w1 ⟨rfl, b1⟩; have K1 := Lib.hid ((Vs.none w).below b1); clear b1 HO1; refine Hid.out ?_))
       refine Lib.hid ?_
       go_wp2_with (first
         | (refine wpList_store_row rfl 27 (.tmp 5) (.tmp 19) rfl w1.heap.size (row xs) rfl rfl _ _ (rowAt_new w1 _ zero32) (info_chunk32 _ LX.out) (by rw [row_size, row_size, LX.out]; rfl) (row_one _) ?_; refine with_worldL (Vs w [(w1.heap.size, xs)]) (K1.out.new xs) fun W2 hW => ?_; have K2 := Lib.hid hW; clear hW K1; refine Hid.out ?_))
       refine Lib.hid ?_
       go_wp2_with (first
         | (refine wpList_load_roww 27 (.tmp 5) rfl _ rfl (by rfl) _ _ _ _ (K2.out.at_ (w1.heap.size, xs) (by simp)) Try.underlying27 rfl (info_chunk32 _ LX.out) ?_)
         | (go_at_call 14; refine (HSP.out _).mono ?_; rintro e2 w3 ⟨rfl, b3⟩; have K3 := Lib.hid (K2.out.below b3); have KF := Lib.hid (two_rows (W := w3) ya); clear b3 K2; refine Hid.out ?_))
       refine Lib.hid ?_
       go_wp2_with (first
         | (refine wpList_store_row rfl 27 (.tmp 7) (.tmp 25) rfl w3.heap.size (row ya) rfl rfl _ _ KF.out.1 (info_chunk32 _ LA.out) (by rw [row_size, row_size, LA.out]; rfl) (row_one _) ?_)
         | (refine wpList_store_row rfl 27 (.tmp 8) (.tmp 26) rfl (w3.heap.size + 1) (row yb) rfl rfl _ _ KF.out.2 (info_chunk32 _ LB.out) (by rw [row_size, row_size, LB.out]; rfl) (row_one _) ?_; refine with_worldL (Vs w [(w3.heap.size, ya), (w3.heap.size + 1, yb), (w1.heap.size, xs)]) (K3.out.two ya yb) fun W4 hW => ?_; have K4 := Lib.hid hW; clear hW K3 KF; refine Hid.out ?_))
       refine Lib.hid ?_
       go_wp2_with (go_at_call 9; refine (HK.out _).mono ?_; rintro e w5 ⟨rfl, b5⟩)
       go_ret
       exact ⟨rfl, (K4.out.below b5).bel⟩)

theorem nl_split (l : List Int) (j : Nat) : nl (l.take j) + nl (l.drop j) = nl l := by rw [← nl_app, List.take_append_drop]

set_option maxRecDepth 100000 in
set_option maxHeartbeats 2000000 in
theorem back_both (v : Value) (l : List Int) (j : Nat) (w : World) (h1 : Ints .i32 w v l) (he : ofE l = 0) (hj : j ≤ l.length) :
    Calls Try.prog 5 #[v, .int .i64 j] w fun e w' => e = .returned (.bool true) ∧ Below w.heap.size w w' := by
  have cl := chunky_of he
  have hl32 := cl.1
  have ca := cl.take j
  have cb := cl.drop j
  have ho1 := of_any v l w h1
  rw [ofV_ok he] at ho1
  have HO1 := Lib.hid ho1
  have HSP := Lib.hid (fun w => split_in l cl j hj w)
  have hjn := fun w => join_fit (l.take j) (l.drop j) ca cb (by rw [List.length_take, List.length_drop]; omega) w
  rw [List.take_append_drop] at hjn
  have HJ := Lib.hid hjn
  have LX := Lib.hid (slots_len cl.1)
  have LA := Lib.hid (slots_len ca.1)
  have LB := Lib.hid (slots_len cb.1)
  have HNA := Lib.hid (fun w => newlines_any (l.take j) ca w)
  have HNB := Lib.hid (fun w => newlines_any (l.drop j) cb w)
  have HNC := Lib.hid (fun w => newlines_any l cl w)
  have HAH := Lib.hid (fun w => ahead_any l cl j w)
  have HLN := Lib.hid (fun w => len_any (l.take j) ca w)
  rw [Int.toNat_natCast] at HAH
  rw [show (l.take j).length = j by rw [List.length_take]; omega] at HLN
  have hq := fun w => chunk_eql (slots l) (slots l) LX.out LX.out w
  rw [show (slots l == slots l) = true by simp] at hq
  have hsum := nl_split l j
  have hle : nl l ≤ 32 := Nat.le_trans (nl_le l) hl32
  have HK := Lib.hid (fun w => known9_any w)
  obtain ⟨a1, c1, rfl⟩ := h1.shape
  have g0 : ¬ (1000 : Int) < l.length := by omega
  unfold cv at HSP HJ HNA HNB HNC HAH HLN
  obtain ⟨xs, hxs⟩ : ∃ xs, slots l = xs := ⟨_, rfl⟩
  obtain ⟨ya, hya⟩ : ∃ ya, slots (l.take j) = ya := ⟨_, rfl⟩
  obtain ⟨yb, hyb⟩ : ∃ yb, slots (l.drop j) = yb := ⟨_, rfl⟩
  obtain ⟨p, hp⟩ : ∃ p, nl (l.take j) = p := ⟨_, rfl⟩
  obtain ⟨q, hq'⟩ : ∃ q, nl (l.drop j) = q := ⟨_, rfl⟩
  obtain ⟨r, hr⟩ : ∃ r, nl l = r := ⟨_, rfl⟩
  rw [hxs] at HO1 HSP HJ LX HNC HAH hq
  rw [hya] at HSP HJ LA HNA HLN
  rw [hyb] at HSP HJ LB HNB
  rw [hp] at HNA HAH hsum
  rw [hq'] at HNB hsum
  rw [hr] at HNC hsum hle
  clear hxs hya hyb hp hq' hr h1 ho1 hjn cl ca cb he
  have hs1 : ((p : Int) + q == r) = true := by rw [beq_iff_eq]; omega
  have hs2 : (p : Int) + q = r := by omega
  have hw : IntKind.i64.wrap (r : Int) = (r : Int) := by rw [IntKind.wrap_i64]; omega

  go_enter Try.func5, Try.ntmps5
  go_wp2_with (first
    | (go_at_call 10; refine HO1.out.mono ?_; rintro e1 w1 ⟨rfl, b1⟩; have K1 := Lib.hid ((Vs.none w).below b1); clear b1 HO1; refine Hid.out ?_))
  refine Lib.hid ?_
  go_wp2_with (first
    | (refine wpList_store_row rfl 27 (.tmp 5) (.tmp 19) rfl w1.heap.size (row xs) rfl rfl _ _ (rowAt_new w1 _ zero32) (info_chunk32 _ LX.out) (by rw [row_size, row_size, LX.out]; rfl) (row_one _) ?_; refine with_worldL (Vs w [(w1.heap.size, xs)]) (K1.out.new xs) fun W2 hW => ?_; have K2 := Lib.hid hW; clear hW K1; refine Hid.out ?_))
  refine Lib.hid ?_
  go_wp2_with (first
    | (refine wpList_load_roww 27 (.tmp 5) rfl _ rfl (by rfl) _ _ _ _ (K2.out.at_ (w1.heap.size, xs) (by simp)) Try.underlying27 rfl (info_chunk32 _ LX.out) ?_)
    | (go_at_call 14; refine (HSP.out _).mono ?_; rintro e2 w3 ⟨rfl, b3⟩; have K3 := Lib.hid (K2.out.below b3); have KF := Lib.hid (two_rows (W := w3) ya); clear b3 K2; refine Hid.out ?_))
  refine Lib.hid ?_
  go_wp2_with (first
    | (refine wpList_store_row rfl 27 (.tmp 7) (.tmp 25) rfl w3.heap.size (row ya) rfl rfl _ _ KF.out.1 (info_chunk32 _ LA.out) (by rw [row_size, row_size, LA.out]; rfl) (row_one _) ?_)
    | (refine wpList_store_row rfl 27 (.tmp 8) (.tmp 26) rfl (w3.heap.size + 1) (row yb) rfl rfl _ _ KF.out.2 (info_chunk32 _ LB.out) (by rw [row_size, row_size, LB.out]; rfl) (row_one _) ?_; refine with_worldL (Vs w [(w3.heap.size, ya), (w3.heap.size + 1, yb), (w1.heap.size, xs)]) (K3.out.two ya yb) fun W4 hW => ?_; have K4 := Lib.hid hW; clear hW K3 KF; refine Hid.out ?_))
  refine Lib.hid ?_
  go_wp2_with (first
    | (refine wpList_load_roww 27 (.tmp 7) rfl _ rfl (by rfl) _ _ _ _ (K4.out.at_ (w3.heap.size, ya) (by simp)) Try.underlying27 rfl (info_chunk32 _ LA.out) ?_)
    | (refine wpList_load_roww 27 (.tmp 8) rfl _ rfl (by rfl) _ _ _ _ (K4.out.at_ (w3.heap.size + 1, yb) (by simp)) Try.underlying27 rfl (info_chunk32 _ LB.out) ?_)
    | (go_at_call 15; refine (HJ.out _).mono ?_; rintro e5 w5 ⟨rfl, b5⟩; have K5 := Lib.hid (K4.out.below b5); clear b5 K4; refine Hid.out ?_))
  refine Lib.hid ?_
  go_wp2_with (first
    | (refine wpList_store_row rfl 27 (.tmp 10) (.tmp 39) rfl w5.heap.size (row xs) rfl rfl _ _ (rowAt_new w5 _ zero32) (info_chunk32 _ LX.out) (by rw [row_size, row_size, LX.out]; rfl) (row_one _) ?_; refine with_worldL (Vs w [(w5.heap.size, xs), (w3.heap.size, ya), (w3.heap.size + 1, yb), (w1.heap.size, xs)]) (K5.out.new xs) fun W6 hW => ?_; have K6 := Lib.hid hW; clear hW K5; refine Hid.out ?_))
  refine Lib.hid ?_
  go_wp2
  refine region_classw (C := Vs w [(w5.heap.size, xs), (w3.heap.size, ya), (w3.heap.size + 1, yb), (w1.heap.size, xs)]) (by kernel_rfl) (by kernel_rfl) (K6.out.below (below_drew _)) ?_
  repeat (first
    | (first
         | refine w_skip (by rfl) (by rfl) ?_
         | refine w_skipn (by rfl) (by rfl) ?_
       simp only [Act.put, List.setIfInBounds_toArray, List.set_cons_zero, List.set_cons_succ])
    | (first
         | refine w_val (v := .agg (row xs)) (by rfl) (fun w9 hS => x_load 27 (.tmp 10) rfl _ rfl _ _ _ _ (hS.at_ (w5.heap.size, xs) (by simp)) Try.underlying27 rfl (info_chunk32 _ LX.out)) ?_
         | refine w_valg (v := .agg (row xs)) (by rfl) (by rfl) (fun w9 hS => x_load 27 (.tmp 10) rfl _ rfl _ _ _ _ (hS.at_ (w5.heap.size, xs) (by simp)) Try.underlying27 rfl (info_chunk32 _ LX.out)) ?_
       simp only [Act.put, List.setIfInBounds_toArray, List.set_cons_zero, List.set_cons_succ])
    | (first
         | refine w_val (v := .agg (row xs)) (by rfl) (fun w9 hS => x_load 27 (.tmp 5) rfl _ rfl _ _ _ _ (hS.at_ (w1.heap.size, xs) (by simp)) Try.underlying27 rfl (info_chunk32 _ LX.out)) ?_
         | refine w_valg (v := .agg (row xs)) (by rfl) (by rfl) (fun w9 hS => x_load 27 (.tmp 5) rfl _ rfl _ _ _ _ (hS.at_ (w1.heap.size, xs) (by simp)) Try.underlying27 rfl (info_chunk32 _ LX.out)) ?_
       simp only [Act.put, List.setIfInBounds_toArray, List.set_cons_zero, List.set_cons_succ])
    | (first
         | refine w_val (v := .agg (row ya)) (by rfl) (fun w9 hS => x_load 27 (.tmp 7) rfl _ rfl _ _ _ _ (hS.at_ (w3.heap.size, ya) (by simp)) Try.underlying27 rfl (info_chunk32 _ LA.out)) ?_
         | refine w_valg (v := .agg (row ya)) (by rfl) (by rfl) (fun w9 hS => x_load 27 (.tmp 7) rfl _ rfl _ _ _ _ (hS.at_ (w3.heap.size, ya) (by simp)) Try.underlying27 rfl (info_chunk32 _ LA.out)) ?_
       simp only [Act.put, List.setIfInBounds_toArray, List.set_cons_zero, List.set_cons_succ])
    | (first
         | refine w_val (v := .agg (row yb)) (by rfl) (fun w9 hS => x_load 27 (.tmp 8) rfl _ rfl _ _ _ _ (hS.at_ (w3.heap.size + 1, yb) (by simp)) Try.underlying27 rfl (info_chunk32 _ LB.out)) ?_
         | refine w_valg (v := .agg (row yb)) (by rfl) (by rfl) (fun w9 hS => x_load 27 (.tmp 8) rfl _ rfl _ _ _ _ (hS.at_ (w3.heap.size + 1, yb) (by simp)) Try.underlying27 rfl (info_chunk32 _ LB.out)) ?_
       simp only [Act.put, List.setIfInBounds_toArray, List.set_cons_zero, List.set_cons_succ])
    | (first
         | refine w_val (v := ?_) (by rfl) (fun w9 hS => ?_) ?_
         | refine w_valg (v := ?_) (by rfl) (by rfl) (fun w9 hS => ?_) ?_
       rotate_left
       · clear hS
         go_simp
         try with_reducible rfl
       simp only [Act.put, List.setIfInBounds_toArray, List.set_cons_zero, List.set_cons_succ])
    | (first
         | refine w_call (f := 16) (args := #[.agg (row ya)]) (by rfl) (fun w9 hS => ?_) (fun w9 hS => (HNA.out w9).mono fun e w' ⟨q1, q2⟩ => ⟨q1, hS.below q2⟩) ?_
         | refine w_callg (f := 16) (args := #[.agg (row ya)]) (by rfl) (by rfl) (fun w9 hS => ?_) (fun w9 hS => (HNA.out w9).mono fun e w' ⟨q1, q2⟩ => ⟨q1, hS.below q2⟩) ?_
       · clear hS
         go_simp
       simp only [Act.put, List.setIfInBounds_toArray, List.set_cons_zero, List.set_cons_succ])
    | (first
         | refine w_call (f := 16) (args := #[.agg (row yb)]) (by rfl) (fun w9 hS => ?_) (fun w9 hS => (HNB.out w9).mono fun e w' ⟨q1, q2⟩ => ⟨q1, hS.below q2⟩) ?_
         | refine w_callg (f := 16) (args := #[.agg (row yb)]) (by rfl) (by rfl) (fun w9 hS => ?_) (fun w9 hS => (HNB.out w9).mono fun e w' ⟨q1, q2⟩ => ⟨q1, hS.below q2⟩) ?_
       · clear hS
         go_simp
       simp only [Act.put, List.setIfInBounds_toArray, List.set_cons_zero, List.set_cons_succ])
    | (first
         | refine w_call (f := 16) (args := #[.agg (row xs)]) (by rfl) (fun w9 hS => ?_) (fun w9 hS => (HNC.out w9).mono fun e w' ⟨q1, q2⟩ => ⟨q1, hS.below q2⟩) ?_
         | refine w_callg (f := 16) (args := #[.agg (row xs)]) (by rfl) (by rfl) (fun w9 hS => ?_) (fun w9 hS => (HNC.out w9).mono fun e w' ⟨q1, q2⟩ => ⟨q1, hS.below q2⟩) ?_
       · clear hS
         go_simp
       simp only [Act.put, List.setIfInBounds_toArray, List.set_cons_zero, List.set_cons_succ])
    | (first
         | refine w_call (f := 17) (args := #[.agg (row xs), .int .i64 j]) (by rfl) (fun w9 hS => ?_) (fun w9 hS => (HAH.out w9).mono fun e w' ⟨q1, q2⟩ => ⟨q1, hS.below q2⟩) ?_
         | refine w_callg (f := 17) (args := #[.agg (row xs), .int .i64 j]) (by rfl) (by rfl) (fun w9 hS => ?_) (fun w9 hS => (HAH.out w9).mono fun e w' ⟨q1, q2⟩ => ⟨q1, hS.below q2⟩) ?_
       · clear hS
         go_simp
       simp only [Act.put, List.setIfInBounds_toArray, List.set_cons_zero, List.set_cons_succ])
    | (first
         | refine w_call (f := 18) (args := #[.agg (row ya)]) (by rfl) (fun w9 hS => ?_) (fun w9 hS => (HLN.out w9).mono fun e w' ⟨q1, q2⟩ => ⟨q1, hS.below q2⟩) ?_
         | refine w_callg (f := 18) (args := #[.agg (row ya)]) (by rfl) (by rfl) (fun w9 hS => ?_) (fun w9 hS => (HLN.out w9).mono fun e w' ⟨q1, q2⟩ => ⟨q1, hS.below q2⟩) ?_
       · clear hS
         go_simp
       simp only [Act.put, List.setIfInBounds_toArray, List.set_cons_zero, List.set_cons_succ])
    | (first
         | refine w_call (f := 9) (args := #[]) (by rfl) (fun w9 hS => ?_) (fun w9 hS => (HK.out w9).mono fun e w' ⟨q1, q2⟩ => ⟨q1, hS.below q2⟩) ?_
         | refine w_callg (f := 9) (args := #[]) (by rfl) (by rfl) (fun w9 hS => ?_) (fun w9 hS => (HK.out w9).mono fun e w' ⟨q1, q2⟩ => ⟨q1, hS.below q2⟩) ?_
       · clear hS
         go_simp
       simp only [Act.put, List.setIfInBounds_toArray, List.set_cons_zero, List.set_cons_succ]))
  refine w_end ?_
  intro W7 T7
  have K7 := Lib.hid T7
  clear T7
  go_wp2
  go_ret
  exact ⟨rfl, K7.out.bel⟩
theorem back_walk (v : Value) (l : List Int) (i : Int) (w : World) (h1 : Ints .i32 w v l) :
    Calls Try.prog 5 #[v, .int .i64 i] w fun e w' => e = .returned (.bool true) ∧ Below w.heap.size w w' := by
  by_cases hl : 1000 < l.length
  · exact back_long v l i w h1 hl
  · by_cases he : ofE l ≠ 0 ∨ splE (ofL l) i ≠ 0
    · exact back_none v l i w h1 (by omega) he
    · have he0 : ofE l = 0 := by omega
      have hs : splE (ofL l) i = 0 := by omega
      rw [ofL_ok he0] at hs
      unfold splE at hs
      split at hs
      · have := back_both v l i.toNat w h1 he0 (by omega)
        rwa [show ((i.toNat : Nat) : Int) = i by omega] at this
      · cases hs
end Go.Proofs.Ytckdmhklnnmjpaa
