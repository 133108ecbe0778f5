
import Derived.Test.YtckdmhklnnmjpaaOM
/- OQ: ChunkJoins -/
namespace Go.Proofs.Ytckdmhklnnmjpaa
open Go.RowKit
set_option linter.unusedVariables false

set_option maxRecDepth 100000 in
theorem joins_long (v1 v2 v3 : Value) (l m n : List Int) (w : World) (h1 : Ints .i32 w v1 l) (h2 : Ints .i32 w v2 m) (h3 : Ints .i32 w v3 n) (hl : 100 < l.length ∨ 100 < m.length ∨ 100 < n.length) :
    Calls Try.prog 8 #[v1, v2, v3] w fun e w' => e = .returned (.bool true) ∧ Below w.heap.size w w' := by
  obtain ⟨a1, c1, rfl⟩ := h1.shape
  obtain ⟨a2, c2, rfl⟩ := h2.shape
  obtain ⟨a3, c3, rfl⟩ := h3.shape
  have l1 := h1.len
  have l2 := h2.len
  have l3 := h3.len
  have HK := Lib.hid (fun w => known9_any w)
  clear h1 h2 h3
  by_cases hl1 : 100 < l.length
  · have g0 : (100 : Int) < l.length := by omega
    clear hl hl1
    go_enter Try.func8, Try.ntmps8
    go_wp2_with (first
      | (go_at_call 9; refine (HK.out _).mono ?_; rintro e w99 ⟨rfl, b99⟩))
    go_ret
    exact ⟨rfl, b99⟩
  · have g0 : ¬ (100 : Int) < l.length := by omega
    by_cases hm1 : 100 < m.length
    · have g1 : (100 : Int) < m.length := by omega
      clear hl hl1 hm1
      go_enter Try.func8, Try.ntmps8
      go_wp2_with (first
        | (go_at_call 9; refine (HK.out _).mono ?_; rintro e w99 ⟨rfl, b99⟩))
      go_ret
      exact ⟨rfl, b99⟩
    · have g1 : ¬ (100 : Int) < m.length := by omega
      have g2 : (100 : Int) < n.length := by omega
      clear hl hl1 hm1
      go_enter Try.func8, Try.ntmps8
      go_wp2_with (first
        | (go_at_call 9; refine (HK.out _).mono ?_; rintro e w99 ⟨rfl, b99⟩))
      go_ret
      exact ⟨rfl, b99⟩

set_option maxRecDepth 100000 in
set_option maxHeartbeats 1000000 in
theorem joins_none (v1 v2 v3 : Value) (l m n : List Int) (w : World) (h1 : Ints .i32 w v1 l) (h2 : Ints .i32 w v2 m) (h3 : Ints .i32 w v3 n) (hl : l.length ≤ 100) (hm : m.length ≤ 100) (hn : n.length ≤ 100)
    (he : ofE l ≠ 0 ∨ ofE m ≠ 0 ∨ ofE n ≠ 0 ∨ 32 < l.length + m.length + n.length) :
    Calls Try.prog 8 #[v1, v2, v3] w fun e w' => e = .returned (.bool true) ∧ Below w.heap.size w w' := by
  have H2 := Lib.hid h2
  have H3 := Lib.hid h3
  have HO1 := Lib.hid (of_any v1 l w h1)
  have HO2 := Lib.hid (fun v w h => of_any v m w h)
  have HO3 := Lib.hid (fun v w h => of_any v n w h)
  have LA := Lib.hid (len_ofL l)
  have LB := Lib.hid (len_ofL m)
  have LC := Lib.hid (len_ofL n)
  have HK := Lib.hid (fun w => known9_any w)
  obtain ⟨a1, c1, rfl⟩ := h1.shape
  obtain ⟨a2, c2, rfl⟩ := h2.shape
  obtain ⟨a3, c3, rfl⟩ := h3.shape
  unfold ofV cv at HO1 HO2 HO3
  have g0 : ¬ (100 : Int) < l.length := by omega
  have g1 : ¬ (100 : Int) < m.length := by omega
  have g2 : ¬ (100 : Int) < n.length := by omega
  obtain ⟨xa, hxa⟩ : ∃ xs, slots (ofL l) = xs := ⟨_, rfl⟩
  obtain ⟨xb, hxb⟩ : ∃ xs, slots (ofL m) = xs := ⟨_, rfl⟩
  obtain ⟨xc, hxc⟩ : ∃ xs, slots (ofL n) = xs := ⟨_, rfl⟩
  obtain ⟨e, hee⟩ : ∃ e, ofE l = e := ⟨_, rfl⟩
  obtain ⟨f, hff⟩ : ∃ f, ofE m = f := ⟨_, rfl⟩
  obtain ⟨g, hgg⟩ : ∃ g, ofE n = g := ⟨_, rfl⟩
  rw [hxa, hee] at HO1
  rw [hxb, hff] at HO2
  rw [hxc, hgg] at HO3
  rw [hxa] at LA
  rw [hxb] at LB
  rw [hxc] at LC
  rw [hee, hff, hgg] at he
  clear hxa hxb hxc hee hff hgg h1 h2 h3
  obtain ⟨be, hbe⟩ : ∃ b, (e == 0) = b := ⟨_, rfl⟩
  obtain ⟨bf, hbf⟩ : ∃ b, (f == 0) = b := ⟨_, rfl⟩
  obtain ⟨bg, hbg⟩ : ∃ b, (g == 0) = b := ⟨_, rfl⟩
  have hbe' : (e != 0) = !be := by simp [bne, hbe]
  have hbf' : (f != 0) = !bf := by simp [bne, hbf]
  have hbg' : (g != 0) = !bg := by simp [bne, hbg]
  have hor : be = false ∨ bf = false ∨ bg = false ∨ (32 : Int) < l.length + m.length + n.length := by
    rcases he with h | h | h | h
    · left; rw [← hbe]; simp [h]
    · right; left; rw [← hbf]; simp [h]
    · right; right; left; rw [← hbg]; simp [h]
    · right; right; right; omega
  clear he
  cases be
  · clear hor
    go_enter Try.func8, Try.ntmps8
    go_wp2_with (first
      | (go_at_call 10; refine HO1.out.mono ?_; rintro e1 u0 ⟨rfl, b1⟩; have K0 := Lib.hid ((Vs.none w).below b1); clear b1 HO1; refine Hid.out ?_))
    refine Lib.hid ?_
    go_wp2_with (first
      | (refine wpList_store_row rfl 27 (.tmp 7) (.tmp 38) rfl u0.heap.size (row xa) rfl rfl _ _ (rowAt_new _ _ zero32) (info_chunk32 _ LA.out) (by rw [row_size, row_size, LA.out]; rfl) (row_one _) ?_; refine with_worldL (Vs w [(u0.heap.size, xa)]) (K0.out.new xa) fun W hW => ?_; have K1 := Lib.hid hW; clear hW K0; refine Hid.out ?_))
    refine Lib.hid ?_
    go_wp2_with (first
      | (go_at_call 10; refine (HO2.out _ _ (H2.out.below K1.out.bel)).mono ?_; rintro e1 u1 ⟨rfl, b1⟩; have K2 := Lib.hid (K1.out.below b1); clear b1 HO2 K1; refine Hid.out ?_))
    refine Lib.hid ?_
    go_wp2_with (first
      | (refine wpList_store_row rfl 27 (.tmp 9) (.tmp 43) rfl u1.heap.size (row xb) rfl rfl _ _ (rowAt_new _ _ zero32) (info_chunk32 _ LB.out) (by rw [row_size, row_size, LB.out]; rfl) (row_one _) ?_; refine with_worldL (Vs w [(u1.heap.size, xb), (u0.heap.size, xa)]) (K2.out.new xb) fun W hW => ?_; have K3 := Lib.hid hW; clear hW K2; refine Hid.out ?_))
    refine Lib.hid ?_
    go_wp2_with (first
      | (go_at_call 10; refine (HO3.out _ _ (H3.out.below K3.out.bel)).mono ?_; rintro e1 u2 ⟨rfl, b1⟩; have K4 := Lib.hid (K3.out.below b1); clear b1 HO3 K3; refine Hid.out ?_))
    refine Lib.hid ?_
    go_wp2_with (first
      | (refine wpList_store_row rfl 27 (.tmp 11) (.tmp 48) rfl u2.heap.size (row xc) rfl rfl _ _ (rowAt_new _ _ zero32) (info_chunk32 _ LC.out) (by rw [row_size, row_size, LC.out]; rfl) (row_one _) ?_; refine with_worldL (Vs w [(u2.heap.size, xc), (u1.heap.size, xb), (u0.heap.size, xa)]) (K4.out.new xc) fun W hW => ?_; have K5 := Lib.hid hW; clear hW K4; refine Hid.out ?_))
    refine Lib.hid ?_
    go_wp2_with (first
      | (go_at_call 9; refine (HK.out _).mono ?_; rintro e w99 ⟨rfl, b99⟩))
    go_ret
    exact ⟨rfl, (K5.out.below b99).bel⟩
  · cases bf
    · clear hor
      go_enter Try.func8, Try.ntmps8
      go_wp2_with (first
        | (go_at_call 10; refine HO1.out.mono ?_; rintro e1 u0 ⟨rfl, b1⟩; have K0 := Lib.hid ((Vs.none w).below b1); clear b1 HO1; refine Hid.out ?_))
      refine Lib.hid ?_
      go_wp2_with (first
        | (refine wpList_store_row rfl 27 (.tmp 7) (.tmp 38) rfl u0.heap.size (row xa) rfl rfl _ _ (rowAt_new _ _ zero32) (info_chunk32 _ LA.out) (by rw [row_size, row_size, LA.out]; rfl) (row_one _) ?_; refine with_worldL (Vs w [(u0.heap.size, xa)]) (K0.out.new xa) fun W hW => ?_; have K1 := Lib.hid hW; clear hW K0; refine Hid.out ?_))
      refine Lib.hid ?_
      go_wp2_with (first
        | (go_at_call 10; refine (HO2.out _ _ (H2.out.below K1.out.bel)).mono ?_; rintro e1 u1 ⟨rfl, b1⟩; have K2 := Lib.hid (K1.out.below b1); clear b1 HO2 K1; refine Hid.out ?_))
      refine Lib.hid ?_
      go_wp2_with (first
        | (refine wpList_store_row rfl 27 (.tmp 9) (.tmp 43) rfl u1.heap.size (row xb) rfl rfl _ _ (rowAt_new _ _ zero32) (info_chunk32 _ LB.out) (by rw [row_size, row_size, LB.out]; rfl) (row_one _) ?_; refine with_worldL (Vs w [(u1.heap.size, xb), (u0.heap.size, xa)]) (K2.out.new xb) fun W hW => ?_; have K3 := Lib.hid hW; clear hW K2; refine Hid.out ?_))
      refine Lib.hid ?_
      go_wp2_with (first
        | (go_at_call 10; refine (HO3.out _ _ (H3.out.below K3.out.bel)).mono ?_; rintro e1 u2 ⟨rfl, b1⟩; have K4 := Lib.hid (K3.out.below b1); clear b1 HO3 K3; refine Hid.out ?_))
      refine Lib.hid ?_
      go_wp2_with (first
        | (refine wpList_store_row rfl 27 (.tmp 11) (.tmp 48) rfl u2.heap.size (row xc) rfl rfl _ _ (rowAt_new _ _ zero32) (info_chunk32 _ LC.out) (by rw [row_size, row_size, LC.out]; rfl) (row_one _) ?_; refine with_worldL (Vs w [(u2.heap.size, xc), (u1.heap.size, xb), (u0.heap.size, xa)]) (K4.out.new xc) fun W hW => ?_; have K5 := Lib.hid hW; clear hW K4; refine Hid.out ?_))
      refine Lib.hid ?_
      go_wp2_with (first
        | (go_at_call 9; refine (HK.out _).mono ?_; rintro e w99 ⟨rfl, b99⟩))
      go_ret
      exact ⟨rfl, (K5.out.below b99).bel⟩
    · cases bg
      · clear hor
        go_enter Try.func8, Try.ntmps8
        go_wp2_with (first
          | (go_at_call 10; refine HO1.out.mono ?_; rintro e1 u0 ⟨rfl, b1⟩; have K0 := Lib.hid ((Vs.none w).below b1); clear b1 HO1; refine Hid.out ?_))
        refine Lib.hid ?_
        go_wp2_with (first
          | (refine wpList_store_row rfl 27 (.tmp 7) (.tmp 38) rfl u0.heap.size (row xa) rfl rfl _ _ (rowAt_new _ _ zero32) (info_chunk32 _ LA.out) (by rw [row_size, row_size, LA.out]; rfl) (row_one _) ?_; refine with_worldL (Vs w [(u0.heap.size, xa)]) (K0.out.new xa) fun W hW => ?_; have K1 := Lib.hid hW; clear hW K0; refine Hid.out ?_))
        refine Lib.hid ?_
        go_wp2_with (first
          | (go_at_call 10; refine (HO2.out _ _ (H2.out.below K1.out.bel)).mono ?_; rintro e1 u1 ⟨rfl, b1⟩; have K2 := Lib.hid (K1.out.below b1); clear b1 HO2 K1; refine Hid.out ?_))
        refine Lib.hid ?_
        go_wp2_with (first
          | (refine wpList_store_row rfl 27 (.tmp 9) (.tmp 43) rfl u1.heap.size (row xb) rfl rfl _ _ (rowAt_new _ _ zero32) (info_chunk32 _ LB.out) (by rw [row_size, row_size, LB.out]; rfl) (row_one _) ?_; refine with_worldL (Vs w [(u1.heap.size, xb), (u0.heap.size, xa)]) (K2.out.new xb) fun W hW => ?_; have K3 := Lib.hid hW; clear hW K2; refine Hid.out ?_))
        refine Lib.hid ?_
        go_wp2_with (first
          | (go_at_call 10; refine (HO3.out _ _ (H3.out.below K3.out.bel)).mono ?_; rintro e1 u2 ⟨rfl, b1⟩; have K4 := Lib.hid (K3.out.below b1); clear b1 HO3 K3; refine Hid.out ?_))
        refine Lib.hid ?_
        go_wp2_with (first
          | (refine wpList_store_row rfl 27 (.tmp 11) (.tmp 48) rfl u2.heap.size (row xc) rfl rfl _ _ (rowAt_new _ _ zero32) (info_chunk32 _ LC.out) (by rw [row_size, row_size, LC.out]; rfl) (row_one _) ?_; refine with_worldL (Vs w [(u2.heap.size, xc), (u1.heap.size, xb), (u0.heap.size, xa)]) (K4.out.new xc) fun W hW => ?_; have K5 := Lib.hid hW; clear hW K4; refine Hid.out ?_))
        refine Lib.hid ?_
        go_wp2_with (first
          | (go_at_call 9; refine (HK.out _).mono ?_; rintro e w99 ⟨rfl, b99⟩))
        go_ret
        exact ⟨rfl, (K5.out.below b99).bel⟩
      · have g3 : (32 : Int) < l.length + m.length + n.length := by
          rcases hor with h | h | h | h
          · cases h
          · cases h
          · cases h
          · exact h
        clear hor
        go_enter Try.func8, Try.ntmps8
        go_wp2_with (first
          | (go_at_call 10; refine HO1.out.mono ?_; rintro e1 u0 ⟨rfl, b1⟩; have K0 := Lib.hid ((Vs.none w).below b1); clear b1 HO1; refine Hid.out ?_))
        refine Lib.hid ?_
        go_wp2_with (first
          | (refine wpList_store_row rfl 27 (.tmp 7) (.tmp 38) rfl u0.heap.size (row xa) rfl rfl _ _ (rowAt_new _ _ zero32) (info_chunk32 _ LA.out) (by rw [row_size, row_size, LA.out]; rfl) (row_one _) ?_; refine with_worldL (Vs w [(u0.heap.size, xa)]) (K0.out.new xa) fun W hW => ?_; have K1 := Lib.hid hW; clear hW K0; refine Hid.out ?_))
        refine Lib.hid ?_
        go_wp2_with (first
          | (go_at_call 10; refine (HO2.out _ _ (H2.out.below K1.out.bel)).mono ?_; rintro e1 u1 ⟨rfl, b1⟩; have K2 := Lib.hid (K1.out.below b1); clear b1 HO2 K1; refine Hid.out ?_))
        refine Lib.hid ?_
        go_wp2_with (first
          | (refine wpList_store_row rfl 27 (.tmp 9) (.tmp 43) rfl u1.heap.size (row xb) rfl rfl _ _ (rowAt_new _ _ zero32) (info_chunk32 _ LB.out) (by rw [row_size, row_size, LB.out]; rfl) (row_one _) ?_; refine with_worldL (Vs w [(u1.heap.size, xb), (u0.heap.size, xa)]) (K2.out.new xb) fun W hW => ?_; have K3 := Lib.hid hW; clear hW K2; refine Hid.out ?_))
        refine Lib.hid ?_
        go_wp2_with (first
          | (go_at_call 10; refine (HO3.out _ _ (H3.out.below K3.out.bel)).mono ?_; rintro e1 u2 ⟨rfl, b1⟩; have K4 := Lib.hid (K3.out.below b1); clear b1 HO3 K3; refine Hid.out ?_))
        refine Lib.hid ?_
        go_wp2_with (first
          | (refine wpList_store_row rfl 27 (.tmp 11) (.tmp 48) rfl u2.heap.size (row xc) rfl rfl _ _ (rowAt_new _ _ zero32) (info_chunk32 _ LC.out) (by rw [row_size, row_size, LC.out]; rfl) (row_one _) ?_; refine with_worldL (Vs w [(u2.heap.size, xc), (u1.heap.size, xb), (u0.heap.size, xa)]) (K4.out.new xc) fun W hW => ?_; have K5 := Lib.hid hW; clear hW K4; refine Hid.out ?_))
        refine Lib.hid ?_
        go_wp2_with (first
          | (go_at_call 9; refine (HK.out _).mono ?_; rintro e w99 ⟨rfl, b99⟩))
        go_ret
        exact ⟨rfl, (K5.out.below b99).bel⟩

theorem nl3 (l m n : List Int) : nl (l ++ m ++ n) = nl l + nl m + nl n := by rw [nl_app, nl_app]
set_option maxRecDepth 100000 in
set_option maxHeartbeats 4000000 in
theorem joins_all (v1 v2 v3 : Value) (l m n : List Int) (w : World) (h1 : Ints .i32 w v1 l) (h2 : Ints .i32 w v2 m) (h3 : Ints .i32 w v3 n)
    (he : ofE l = 0) (hf : ofE m = 0) (hg : ofE n = 0) (hs : l.length + m.length + n.length ≤ 32) :
    Calls Try.prog 8 #[v1, v2, v3] w fun e w' => e = .returned (.bool true) ∧ Below w.heap.size w w' := by
  have cl := chunky_of he
  have cm := chunky_of hf
  have cn := chunky_of hg
  have clm := cl.app cm (by omega)
  have cmn := cm.app cn (by omega)
  have call := clm.app cn (by rw [List.length_append]; omega)
  have ho1 := of_any v1 l w h1
  have ho2 := fun v w h => of_any v m w h
  have ho3 := fun v w h => of_any v n w h
  rw [ofV_ok he] at ho1
  rw [ofV_ok hf] at ho2
  rw [ofV_ok hg] at ho3
  have H2 := Lib.hid h2
  have H3 := Lib.hid h3
  have HO1 := Lib.hid ho1
  have HO2 := Lib.hid ho2
  have HO3 := Lib.hid ho3
  have HJ1 := Lib.hid (fun w => join_fit l m cl cm (by omega) w)
  have HJ2 := Lib.hid (fun w => join_fit m n cm cn (by omega) w)
  have HJ3 := Lib.hid (fun w => join_fit (l ++ m) n clm cn (by rw [List.length_append]; omega) w)
  have HJ4 := Lib.hid (fun w => join_fit l (m ++ n) cl cmn (by rw [List.length_append]; omega) w)
  rw [← List.append_assoc] at HJ4
  have LA := Lib.hid (slots_len cl.1)
  have LB := Lib.hid (slots_len cm.1)
  have LC := Lib.hid (slots_len cn.1)
  have LAB := Lib.hid (slots_len clm.1)
  have LBC := Lib.hid (slots_len cmn.1)
  have LABC := Lib.hid (slots_len call.1)
  have HNA := Lib.hid (fun w => newlines_any l cl w)
  have HNB := Lib.hid (fun w => newlines_any m cm w)
  have HNC := Lib.hid (fun w => newlines_any n cn w)
  have HND := Lib.hid (fun w => newlines_any (l ++ m ++ n) call w)
  have hq := fun w => chunk_eql (slots (l ++ m ++ n)) (slots (l ++ m ++ n)) LABC.out LABC.out w
  rw [show (slots (l ++ m ++ n) == slots (l ++ m ++ n)) = true by simp] at hq
  have hsum := nl3 l m n
  have hp1 := nl_le l
  have hp2 := nl_le m
  have hp3 := nl_le n
  have HK := Lib.hid (fun w => known9_any w)
  obtain ⟨a1, c1, rfl⟩ := h1.shape
  obtain ⟨a2, c2, rfl⟩ := h2.shape
  obtain ⟨a3, c3, rfl⟩ := h3.shape
  have g0 : ¬ (100 : Int) < l.length := by omega
  have g1 : ¬ (100 : Int) < m.length := by omega
  have g2 : ¬ (100 : Int) < n.length := by omega
  have g3 : ¬ (32 : Int) < l.length + m.length + n.length := by omega
  unfold cv at HJ1 HJ2 HJ3 HJ4 HNA HNB HNC HND
  obtain ⟨xabc, hxabc⟩ : ∃ xs, slots (l ++ m ++ n) = xs := ⟨_, rfl⟩
  obtain ⟨xab, hxab⟩ : ∃ xs, slots (l ++ m) = xs := ⟨_, rfl⟩
  obtain ⟨xbc, hxbc⟩ : ∃ xs, slots (m ++ n) = xs := ⟨_, rfl⟩
  obtain ⟨xa, hxa⟩ : ∃ xs, slots l = xs := ⟨_, rfl⟩
  obtain ⟨xb, hxb⟩ : ∃ xs, slots m = xs := ⟨_, rfl⟩
  obtain ⟨xc, hxc⟩ : ∃ xs, slots n = xs := ⟨_, rfl⟩
  obtain ⟨r, hr⟩ : ∃ r, nl (l ++ m ++ n) = r := ⟨_, rfl⟩
  obtain ⟨p, hp⟩ : ∃ p, nl l = p := ⟨_, rfl⟩
  obtain ⟨q, hq'⟩ : ∃ q, nl m = q := ⟨_, rfl⟩
  obtain ⟨s, hs'⟩ : ∃ s, nl n = s := ⟨_, rfl⟩
  rw [hxabc] at HJ3 HJ4 LABC HND hq
  rw [hxab] at HJ1 HJ3 LAB
  rw [hxbc] at HJ2 HJ4 LBC
  rw [hxa] at HO1 HJ1 HJ4 LA HNA
  rw [hxb] at HO2 HJ1 HJ2 LB HNB
  rw [hxc] at HO3 HJ2 HJ3 LC HNC
  rw [hr] at HND hsum
  rw [hp] at HNA hsum hp1
  rw [hq'] at HNB hsum hp2
  rw [hs'] at HNC hsum hp3
  clear hxabc hxab hxbc hxa hxb hxc hr hp hq' hs' h1 h2 h3 ho1 ho2 ho3 cl cm cn clm cmn call he hf hg
  have hb1 : (p : Int) + q + s = r := by omega
  have hb2 : ((p : Int) + q + s == r) = true := by rw [beq_iff_eq]; omega
  have hb3 : p ≤ 32 := by omega
  have hb4 : q ≤ 32 := by omega
  have hb5 : s ≤ 32 := by omega
  have hw : IntKind.i64.wrap (r : Int) = (r : Int) := by rw [IntKind.wrap_i64]; omega
  have hw2 : IntKind.i64.wrap ((p : Int) + q) = (p : Int) + q := by rw [IntKind.wrap_i64]; omega
  clear hp1 hp2 hp3 hsum
  go_enter Try.func8, Try.ntmps8
  go_wp2_with (first
    | (go_at_call 10; refine HO1.out.mono ?_; rintro e1 u0 ⟨rfl, b1⟩; have K0 := Lib.hid ((Vs.none w).below b1); clear b1 HO1; refine Hid.out ?_))
  refine Lib.hid ?_
  go_wp2_with (first
    | (refine wpList_store_row rfl 27 (.tmp 7) (.tmp 38) rfl u0.heap.size (row xa) rfl rfl _ _ (rowAt_new _ _ zero32) (info_chunk32 _ LA.out) (by rw [row_size, row_size, LA.out]; rfl) (row_one _) ?_; refine with_worldL (Vs w [(u0.heap.size, xa)]) (K0.out.new xa) fun W hW => ?_; have K1 := Lib.hid hW; clear hW K0; refine Hid.out ?_))
  refine Lib.hid ?_
  go_wp2_with (first
    | (go_at_call 10; refine (HO2.out _ _ (H2.out.below K1.out.bel)).mono ?_; rintro e1 u1 ⟨rfl, b1⟩; have K2 := Lib.hid (K1.out.below b1); clear b1 HO2 K1; refine Hid.out ?_))
  refine Lib.hid ?_
  go_wp2_with (first
    | (refine wpList_store_row rfl 27 (.tmp 9) (.tmp 43) rfl u1.heap.size (row xb) rfl rfl _ _ (rowAt_new _ _ zero32) (info_chunk32 _ LB.out) (by rw [row_size, row_size, LB.out]; rfl) (row_one _) ?_; refine with_worldL (Vs w [(u1.heap.size, xb), (u0.heap.size, xa)]) (K2.out.new xb) fun W hW => ?_; have K3 := Lib.hid hW; clear hW K2; refine Hid.out ?_))
  refine Lib.hid ?_
  go_wp2_with (first
    | (go_at_call 10; refine (HO3.out _ _ (H3.out.below K3.out.bel)).mono ?_; rintro e1 u2 ⟨rfl, b1⟩; have K4 := Lib.hid (K3.out.below b1); clear b1 HO3 K3; refine Hid.out ?_))
  refine Lib.hid ?_
  go_wp2_with (first
    | (refine wpList_store_row rfl 27 (.tmp 11) (.tmp 48) rfl u2.heap.size (row xc) rfl rfl _ _ (rowAt_new _ _ zero32) (info_chunk32 _ LC.out) (by rw [row_size, row_size, LC.out]; rfl) (row_one _) ?_; refine with_worldL (Vs w [(u2.heap.size, xc), (u1.heap.size, xb), (u0.heap.size, xa)]) (K4.out.new xc) fun W hW => ?_; have K5 := Lib.hid hW; clear hW K4; refine Hid.out ?_))
  refine Lib.hid ?_
  go_wp2_with (first
    | (refine wpList_load_roww 27 (.tmp 7) rfl _ rfl (by rfl) _ _ _ _ (K5.out.at_ (u0.heap.size, xa) (by simp)) Try.underlying27 rfl (info_chunk32 _ LA.out) ?_)
    | (refine wpList_load_roww 27 (.tmp 9) rfl _ rfl (by rfl) _ _ _ _ (K5.out.at_ (u1.heap.size, xb) (by simp)) Try.underlying27 rfl (info_chunk32 _ LB.out) ?_)
    | (go_at_call 15; refine (HJ1.out _).mono ?_; rintro e5 u3 ⟨rfl, b5⟩; have K6 := Lib.hid (K5.out.below b5); clear b5 K5; refine Hid.out ?_))
  refine Lib.hid ?_
  go_wp2_with (first
    | (refine wpList_store_row rfl 27 (.tmp 13) (.tmp 76) rfl u3.heap.size (row xab) rfl rfl _ _ (rowAt_new _ _ zero32) (info_chunk32 _ LAB.out) (by rw [row_size, row_size, LAB.out]; rfl) (row_one _) ?_; refine with_worldL (Vs w [(u3.heap.size, xab), (u2.heap.size, xc), (u1.heap.size, xb), (u0.heap.size, xa)]) (K6.out.new xab) fun W hW => ?_; have K7 := Lib.hid hW; clear hW K6; refine Hid.out ?_))
  refine Lib.hid ?_
  go_wp2_with (first
    | (refine wpList_load_roww 27 (.tmp 9) rfl _ rfl (by rfl) _ _ _ _ (K7.out.at_ (u1.heap.size, xb) (by simp)) Try.underlying27 rfl (info_chunk32 _ LB.out) ?_)
    | (refine wpList_load_roww 27 (.tmp 11) rfl _ rfl (by rfl) _ _ _ _ (K7.out.at_ (u2.heap.size, xc) (by simp)) Try.underlying27 rfl (info_chunk32 _ LC.out) ?_)
    | (go_at_call 15; refine (HJ2.out _).mono ?_; rintro e5 u4 ⟨rfl, b5⟩; have K8 := Lib.hid (K7.out.below b5); clear b5 K7; refine Hid.out ?_))
  refine Lib.hid ?_
  go_wp2_with (first
    | (refine wpList_store_row rfl 27 (.tmp 15) (.tmp 82) rfl u4.heap.size (row xbc) rfl rfl _ _ (rowAt_new _ _ zero32) (info_chunk32 _ LBC.out) (by rw [row_size, row_size, LBC.out]; rfl) (row_one _) ?_; refine with_worldL (Vs w [(u4.heap.size, xbc), (u3.heap.size, xab), (u2.heap.size, xc), (u1.heap.size, xb), (u0.heap.size, xa)]) (K8.out.new xbc) fun W hW => ?_; have K9 := Lib.hid hW; clear hW K8; refine Hid.out ?_))
  refine Lib.hid ?_
  go_wp2_with (first
    | (refine wpList_load_roww 27 (.tmp 13) rfl _ rfl (by rfl) _ _ _ _ (K9.out.at_ (u3.heap.size, xab) (by simp)) Try.underlying27 rfl (info_chunk32 _ LAB.out) ?_)
    | (refine wpList_load_roww 27 (.tmp 11) rfl _ rfl (by rfl) _ _ _ _ (K9.out.at_ (u2.heap.size, xc) (by simp)) Try.underlying27 rfl (info_chunk32 _ LC.out) ?_)
    | (go_at_call 15; refine (HJ3.out _).mono ?_; rintro e5 u5 ⟨rfl, b5⟩; have K10 := Lib.hid (K9.out.below b5); clear b5 K9; refine Hid.out ?_))
  refine Lib.hid ?_
  go_wp2_with (first
    | (refine wpList_store_row rfl 27 (.tmp 17) (.tmp 88) rfl u5.heap.size (row xabc) rfl rfl _ _ (rowAt_new _ _ zero32) (info_chunk32 _ LABC.out) (by rw [row_size, row_size, LABC.out]; rfl) (row_one _) ?_; refine with_worldL (Vs w [(u5.heap.size, xabc), (u4.heap.size, xbc), (u3.heap.size, xab), (u2.heap.size, xc), (u1.heap.size, xb), (u0.heap.size, xa)]) (K10.out.new xabc) fun W hW => ?_; have K11 := Lib.hid hW; clear hW K10; refine Hid.out ?_))
  refine Lib.hid ?_
  go_wp2_with (first
    | (refine wpList_load_roww 27 (.tmp 7) rfl _ rfl (by rfl) _ _ _ _ (K11.out.at_ (u0.heap.size, xa) (by simp)) Try.underlying27 rfl (info_chunk32 _ LA.out) ?_)
    | (refine wpList_load_roww 27 (.tmp 15) rfl _ rfl (by rfl) _ _ _ _ (K11.out.at_ (u4.heap.size, xbc) (by simp)) Try.underlying27 rfl (info_chunk32 _ LBC.out) ?_)
    | (go_at_call 15; refine (HJ4.out _).mono ?_; rintro e5 u6 ⟨rfl, b5⟩; have K12 := Lib.hid (K11.out.below b5); clear b5 K11; refine Hid.out ?_))
  refine Lib.hid ?_
  go_wp2_with (first
    | (refine wpList_store_row rfl 27 (.tmp 19) (.tmp 94) rfl u6.heap.size (row xabc) rfl rfl _ _ (rowAt_new _ _ zero32) (info_chunk32 _ LABC.out) (by rw [row_size, row_size, LABC.out]; rfl) (row_one _) ?_; refine with_worldL (Vs w [(u6.heap.size, xabc), (u5.heap.size, xabc), (u4.heap.size, xbc), (u3.heap.size, xab), (u2.heap.size, xc), (u1.heap.size, xb), (u0.heap.size, xa)]) (K12.out.new xabc) fun W hW => ?_; have K13 := Lib.hid hW; clear hW K12; refine Hid.out ?_))
  refine Lib.hid ?_
  go_wp2
  refine region_classw (C := Vs w [(u6.heap.size, xabc), (u5.heap.size, xabc), (u4.heap.size, xbc), (u3.heap.size, xab), (u2.heap.size, xc), (u1.heap.size, xb), (u0.heap.size, xa)]) (by kernel_rfl) (by kernel_rfl) (K13.out.below (below_drew _)) ?_
  repeat (first
    | (first
         | refine w_skip (by rfl) (by rfl) ?_
         | refine w_skipn (by rfl) (by rfl) ?_
       simp only [Act.put, List.setIfInBounds_toArray, List.set_cons_zero, List.set_cons_succ])
    | (first
         | refine w_val (v := .agg (row xabc)) (by rfl) (fun w9 hS => x_load 27 (.tmp 17) rfl _ rfl _ _ _ _ (hS.at_ (u5.heap.size, xabc) (by simp)) Try.underlying27 rfl (info_chunk32 _ LABC.out)) ?_
         | refine w_valg (v := .agg (row xabc)) (by rfl) (by rfl) (fun w9 hS => x_load 27 (.tmp 17) rfl _ rfl _ _ _ _ (hS.at_ (u5.heap.size, xabc) (by simp)) Try.underlying27 rfl (info_chunk32 _ LABC.out)) ?_
       simp only [Act.put, List.setIfInBounds_toArray, List.set_cons_zero, List.set_cons_succ])
    | (first
         | refine w_val (v := .agg (row xabc)) (by rfl) (fun w9 hS => x_load 27 (.tmp 19) rfl _ rfl _ _ _ _ (hS.at_ (u6.heap.size, xabc) (by simp)) Try.underlying27 rfl (info_chunk32 _ LABC.out)) ?_
         | refine w_valg (v := .agg (row xabc)) (by rfl) (by rfl) (fun w9 hS => x_load 27 (.tmp 19) rfl _ rfl _ _ _ _ (hS.at_ (u6.heap.size, xabc) (by simp)) Try.underlying27 rfl (info_chunk32 _ LABC.out)) ?_
       simp only [Act.put, List.setIfInBounds_toArray, List.set_cons_zero, List.set_cons_succ])
    | (first
         | refine w_val (v := .agg (row xa)) (by rfl) (fun w9 hS => x_load 27 (.tmp 7) rfl _ rfl _ _ _ _ (hS.at_ (u0.heap.size, xa) (by simp)) Try.underlying27 rfl (info_chunk32 _ LA.out)) ?_
         | refine w_valg (v := .agg (row xa)) (by rfl) (by rfl) (fun w9 hS => x_load 27 (.tmp 7) rfl _ rfl _ _ _ _ (hS.at_ (u0.heap.size, xa) (by simp)) Try.underlying27 rfl (info_chunk32 _ LA.out)) ?_
       simp only [Act.put, List.setIfInBounds_toArray, List.set_cons_zero, List.set_cons_succ])
    | (first
         | refine w_val (v := .agg (row xb)) (by rfl) (fun w9 hS => x_load 27 (.tmp 9) rfl _ rfl _ _ _ _ (hS.at_ (u1.heap.size, xb) (by simp)) Try.underlying27 rfl (info_chunk32 _ LB.out)) ?_
         | refine w_valg (v := .agg (row xb)) (by rfl) (by rfl) (fun w9 hS => x_load 27 (.tmp 9) rfl _ rfl _ _ _ _ (hS.at_ (u1.heap.size, xb) (by simp)) Try.underlying27 rfl (info_chunk32 _ LB.out)) ?_
       simp only [Act.put, List.setIfInBounds_toArray, List.set_cons_zero, List.set_cons_succ])
    | (first
         | refine w_val (v := .agg (row xc)) (by rfl) (fun w9 hS => x_load 27 (.tmp 11) rfl _ rfl _ _ _ _ (hS.at_ (u2.heap.size, xc) (by simp)) Try.underlying27 rfl (info_chunk32 _ LC.out)) ?_
         | refine w_valg (v := .agg (row xc)) (by rfl) (by rfl) (fun w9 hS => x_load 27 (.tmp 11) rfl _ rfl _ _ _ _ (hS.at_ (u2.heap.size, xc) (by simp)) Try.underlying27 rfl (info_chunk32 _ LC.out)) ?_
       simp only [Act.put, List.setIfInBounds_toArray, List.set_cons_zero, List.set_cons_succ])
    | (first
         | refine w_val (v := ?_) (by rfl) (fun w9 hS => ?_) ?_
         | refine w_valg (v := ?_) (by rfl) (by rfl) (fun w9 hS => ?_) ?_
       rotate_left
       · clear hS
         go_simp
         try with_reducible rfl
       simp only [Act.put, List.setIfInBounds_toArray, List.set_cons_zero, List.set_cons_succ])
    | (first
         | refine w_call (f := 16) (args := #[.agg (row xabc)]) (by rfl) (fun w9 hS => ?_) (fun w9 hS => (HND.out w9).mono fun e w' ⟨q1, q2⟩ => ⟨q1, hS.below q2⟩) ?_
         | refine w_callg (f := 16) (args := #[.agg (row xabc)]) (by rfl) (by rfl) (fun w9 hS => ?_) (fun w9 hS => (HND.out w9).mono fun e w' ⟨q1, q2⟩ => ⟨q1, hS.below q2⟩) ?_
       · clear hS
         go_simp
       simp only [Act.put, List.setIfInBounds_toArray, List.set_cons_zero, List.set_cons_succ])
    | (first
         | refine w_call (f := 16) (args := #[.agg (row xa)]) (by rfl) (fun w9 hS => ?_) (fun w9 hS => (HNA.out w9).mono fun e w' ⟨q1, q2⟩ => ⟨q1, hS.below q2⟩) ?_
         | refine w_callg (f := 16) (args := #[.agg (row xa)]) (by rfl) (by rfl) (fun w9 hS => ?_) (fun w9 hS => (HNA.out w9).mono fun e w' ⟨q1, q2⟩ => ⟨q1, hS.below q2⟩) ?_
       · clear hS
         go_simp
       simp only [Act.put, List.setIfInBounds_toArray, List.set_cons_zero, List.set_cons_succ])
    | (first
         | refine w_call (f := 16) (args := #[.agg (row xb)]) (by rfl) (fun w9 hS => ?_) (fun w9 hS => (HNB.out w9).mono fun e w' ⟨q1, q2⟩ => ⟨q1, hS.below q2⟩) ?_
         | refine w_callg (f := 16) (args := #[.agg (row xb)]) (by rfl) (by rfl) (fun w9 hS => ?_) (fun w9 hS => (HNB.out w9).mono fun e w' ⟨q1, q2⟩ => ⟨q1, hS.below q2⟩) ?_
       · clear hS
         go_simp
       simp only [Act.put, List.setIfInBounds_toArray, List.set_cons_zero, List.set_cons_succ])
    | (first
         | refine w_call (f := 16) (args := #[.agg (row xc)]) (by rfl) (fun w9 hS => ?_) (fun w9 hS => (HNC.out w9).mono fun e w' ⟨q1, q2⟩ => ⟨q1, hS.below q2⟩) ?_
         | refine w_callg (f := 16) (args := #[.agg (row xc)]) (by rfl) (by rfl) (fun w9 hS => ?_) (fun w9 hS => (HNC.out w9).mono fun e w' ⟨q1, q2⟩ => ⟨q1, hS.below q2⟩) ?_
       · clear hS
         go_simp
       simp only [Act.put, List.setIfInBounds_toArray, List.set_cons_zero, List.set_cons_succ])
    | (first
         | refine w_call (f := 9) (args := #[]) (by rfl) (fun w9 hS => ?_) (fun w9 hS => (HK.out w9).mono fun e w' ⟨q1, q2⟩ => ⟨q1, hS.below q2⟩) ?_
         | refine w_callg (f := 9) (args := #[]) (by rfl) (by rfl) (fun w9 hS => ?_) (fun w9 hS => (HK.out w9).mono fun e w' ⟨q1, q2⟩ => ⟨q1, hS.below q2⟩) ?_
       · clear hS
         go_simp
       simp only [Act.put, List.setIfInBounds_toArray, List.set_cons_zero, List.set_cons_succ]))
  refine w_end ?_
  intro W7 T7
  have K7 := Lib.hid T7
  clear T7
  go_wp2
  go_ret
  exact ⟨rfl, K7.out.bel⟩
theorem joins_walk (v1 v2 v3 : Value) (l m n : List Int) (w : World) (h1 : Ints .i32 w v1 l) (h2 : Ints .i32 w v2 m) (h3 : Ints .i32 w v3 n) :
    Calls Try.prog 8 #[v1, v2, v3] w fun e w' => e = .returned (.bool true) ∧ Below w.heap.size w w' := by
  by_cases hl : 100 < l.length ∨ 100 < m.length ∨ 100 < n.length
  · exact joins_long v1 v2 v3 l m n w h1 h2 h3 hl
  · by_cases he : ofE l ≠ 0 ∨ ofE m ≠ 0 ∨ ofE n ≠ 0 ∨ 32 < l.length + m.length + n.length
    · exact joins_none v1 v2 v3 l m n w h1 h2 h3 (by omega) (by omega) (by omega) he
    · exact joins_all v1 v2 v3 l m n w h1 h2 h3 (by omega) (by omega) (by omega) (by omega)
end Go.Proofs.Ytckdmhklnnmjpaa
