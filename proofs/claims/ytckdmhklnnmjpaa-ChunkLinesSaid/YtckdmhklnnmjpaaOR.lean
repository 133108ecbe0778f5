
import Derived.Test.YtckdmhklnnmjpaaOM
/- OR: ChunkLines -/
namespace Go.Proofs.Ytckdmhklnnmjpaa
open Go.RowKit
set_option linter.unusedVariables false

theorem pos_get (l : List Int) : ∀ (n k p : Nat), (pos l n)[k]? = some p → p < n ∧ ((slots l).getD p 0 == 11) = true ∧ nl (l.take p) = k
  | 0, k, p, h => by simp [pos] at h
  | n + 1, k, p, h => by
    rw [pos_succ] at h
    by_cases hk : k < (pos l n).length
    · rw [List.getElem?_append_left hk] at h
      obtain ⟨h1, h2, h3⟩ := pos_get l n k p h
      exact ⟨by omega, h2, h3⟩
    · rw [List.getElem?_append_right (by omega)] at h
      split at h
      · rename_i hy
        have hz : k - (pos l n).length = 0 := by
          apply Classical.byContradiction
          intro hn
          rw [List.getElem?_eq_none (by simp; omega)] at h
          cases h
        rw [hz] at h
        simp at h
        subst h
        rw [pos_length] at hk hz
        exact ⟨by omega, hy, by omega⟩
      · simp at h
theorem nl_mono (l : List Int) {a b : Nat} (h : a ≤ b) : nl (l.take a) ≤ nl (l.take b) := by
  have e : l.take b = l.take a ++ (l.take b).drop a := by
    have := (List.take_append_drop a (l.take b)).symm
    rwa [List.take_take, Nat.min_eq_left h] at this
  rw [e, nl_app]; omega
/-- Where the k-th newline is: what is told of it. -/
theorem nlAt_facts {l : List Int} (h : l.length ≤ 32) {k : Nat} (hk : k < nl l) : ∃ p : Nat, nlAt l (k : Int) = some p ∧ p < l.length ∧ l.getD p 0 = 10 ∧ nl (l.take p) = k ∧ nl (l.take (p + 1)) = k + 1 := by
  obtain ⟨p, h1, -⟩ := nlAt_in h hk
  have h2 := h1
  unfold nlAt at h2
  rw [if_neg (by omega), Int.toNat_natCast, pos_all h] at h2
  obtain ⟨p1, p2, p3⟩ := pos_get l _ _ _ h2
  refine ⟨p, h1, p1, ?_, p3, by rw [nl_yes p2, p3]⟩
  rw [slots_in p1, beq_iff_eq] at p2
  omega

set_option maxRecDepth 100000 in
theorem lines_long (v : Value) (l : List Int) (w : World) (h1 : Ints .i32 w v l) (hl : 1000 < l.length) :
    Calls Try.prog 7 #[v] w fun e w' => e = .returned (.bool true) ∧ Below w.heap.size w w' := by
  obtain ⟨a1, c1, rfl⟩ := h1.shape
  have l1 := h1.len
  have HK := Lib.hid (fun w => known9_any w)
  have g0 : (1000 : Int) < l.length := by omega
  clear h1 hl
  go_enter Try.func7, Try.ntmps7
  go_wp2_with (first
    | (go_at_call 9; refine (HK.out _).mono ?_; rintro e w99 ⟨rfl, b99⟩))
  go_ret
  exact ⟨rfl, b99⟩

set_option maxRecDepth 100000 in
theorem lines_none (v : Value) (l : List Int) (w : World) (h1 : Ints .i32 w v l) (hl : l.length ≤ 1000) (he : ofE l ≠ 0) :
    Calls Try.prog 7 #[v] w fun e w' => e = .returned (.bool true) ∧ Below w.heap.size w w' := by
  have HO1 := Lib.hid (of_any v l w h1)
  have LX := Lib.hid (len_ofL l)
  have HK := Lib.hid (fun w => known9_any w)
  obtain ⟨a1, c1, rfl⟩ := h1.shape
  unfold ofV cv at HO1
  have g0 : ¬ (1000 : Int) < l.length := by omega
  obtain ⟨xs, hxs⟩ : ∃ xs, slots (ofL l) = xs := ⟨_, rfl⟩
  obtain ⟨e, hee⟩ : ∃ e, ofE l = e := ⟨_, rfl⟩
  rw [hxs, hee] at HO1
  rw [hxs] at LX
  rw [hee] at he
  have hbe : (e == 0) = false := by rw [beq_eq_false_iff_ne]; exact he
  have hbe' : (e != 0) = true := by simp [bne, hbe]
  clear hxs hee h1 he
  go_enter Try.func7, Try.ntmps7
  go_wp2_with (first
    | (go_at_call 10; refine HO1.out.mono ?_; rintro e1 u0 ⟨rfl, b1⟩; have K0 := Lib.hid ((Vs.none w).below b1); clear b1 HO1; refine Hid.out ?_))
  refine Lib.hid ?_
  go_wp2_with (first
    | (refine wpList_store_row rfl 27 (.tmp 3) (.tmp 20) rfl u0.heap.size (row xs) rfl rfl _ _ (rowAt_new _ _ zero32) (info_chunk32 _ LX.out) (by rw [row_size, row_size, LX.out]; rfl) (row_one _) ?_; refine with_worldL (Vs w [(u0.heap.size, xs)]) (K0.out.new xs) fun W hW => ?_; have K1 := Lib.hid hW; clear hW K0; refine Hid.out ?_))
  refine Lib.hid ?_
  go_wp2_with (first
    | (go_at_call 9; refine (HK.out _).mono ?_; rintro e w99 ⟨rfl, b99⟩))
  go_ret
  exact ⟨rfl, (K1.out.below b99).bel⟩

set_option maxRecDepth 100000 in
set_option maxHeartbeats 2000000 in
theorem lines_all (v : Value) (l : List Int) (w : World) (h1 : Ints .i32 w v l) (he : ofE l = 0) :
    Calls Try.prog 7 #[v] w fun e w' => e = .returned (.bool true) ∧ Below w.heap.size w w' := by
  have cl := chunky_of he
  have hl32 := cl.1
  have ho1 := of_any v l w h1
  rw [ofV_ok he] at ho1
  have HO1 := Lib.hid ho1
  have LX := Lib.hid (slots_len cl.1)
  have HK := Lib.hid (fun w => known9_any w)
  have HNC := Lib.hid (fun w => newlines_any l cl w)
  have HLN := Lib.hid (fun w => len_any l cl w)
  have HNA := Lib.hid (fun i w => newlineAt_any l cl i w)
  have HAT := Lib.hid (fun i w => at_any l cl i w)
  have HAH := Lib.hid (fun i w => ahead_any l cl i w)
  have hlast := fun w => newlineAt_any l cl (nl l : Nat) w
  rw [nlAt_out hl32 (.inr (Int.le_refl _)), nlVal_none] at hlast
  have hwhole := fun w => ahead_any l cl (l.length : Nat) w
  rw [Int.toNat_natCast, List.take_of_length_le (Nat.le_refl _)] at hwhole
  have HLA := Lib.hid hlast
  have HWH := Lib.hid hwhole
  have hle : nl l ≤ 32 := Nat.le_trans (nl_le l) hl32
  have HF := Lib.hid (fun k (hk : k < nl l) => nlAt_facts hl32 hk)
  obtain ⟨a1, c1, rfl⟩ := h1.shape
  have g0 : ¬ (1000 : Int) < l.length := by omega
  unfold cv at HNC HLN HNA HAT HAH HLA HWH
  clear hlast hwhole
  obtain ⟨xs, hxs⟩ : ∃ xs, slots l = xs := ⟨_, rfl⟩
  obtain ⟨r, hr⟩ : ∃ r, nl l = r := ⟨_, rfl⟩
  rw [hxs] at HO1 LX HNC HLN HNA HAT HAH HLA HWH
  rw [hr] at HNC HLA HWH hle HF
  clear hxs hr ho1 h1 cl he
  go_enter Try.func7, Try.ntmps7
  go_wp2_with (first
    | (go_at_call 10; refine HO1.out.mono ?_; rintro e1 u0 ⟨rfl, b1⟩; have K0 := Lib.hid ((Vs.none w).below b1); clear b1 HO1; refine Hid.out ?_))
  refine Lib.hid ?_
  go_wp2_with (first
    | (refine wpList_store_row rfl 27 (.tmp 3) (.tmp 20) rfl u0.heap.size (row xs) rfl rfl _ _ (rowAt_new _ _ zero32) (info_chunk32 _ LX.out) (by rw [row_size, row_size, LX.out]; rfl) (row_one _) ?_; refine with_worldL (Vs w [(u0.heap.size, xs)]) (K0.out.new xs) fun W hW => ?_; have K1 := Lib.hid hW; clear hW K0; refine Hid.out ?_))
  refine Lib.hid ?_
  have HNC2 := HNC
  go_wp2_with (first
    | (refine wpList_load_roww 27 (.tmp 3) rfl _ rfl (by rfl) _ _ _ _ (K1.out.at_ (u0.heap.size, xs) (by simp)) Try.underlying27 rfl (info_chunk32 _ LX.out) ?_)
    | (go_at_call 16; refine (HNC2.out _).mono ?_; rintro e2 w2 ⟨rfl, b2⟩; have K2 := Lib.hid (K1.out.below b2); clear b2 K1; refine Hid.out ?_))
  refine Lib.hid ?_
  clear HNC2
  go_wp2
  go_loopw [5, 27] (fun s5 s27 wr => ∃ (k : Nat) (z : Int), k ≤ r ∧ s27 = .int .i64 k ∧ s5 = .int .i64 z ∧ -1 ≤ z ∧ z ≤ 32 ∧ Hid (∀ p : Nat, nl (l.take p) = k → z < p) ∧ Hid (Vs w [(u0.heap.size, xs)] wr)) (fun _ s27 _ => r - (intOf s27).toNat)
  case atStart => exact ⟨0, -1, Nat.zero_le _, rfl, rfl, by omega, by omega, Lib.hid (fun p _ => by omega), K2⟩
  case round =>
    rename_i wr
    obtain ⟨k, z, hk, rfl, rfl, hz0, hz1, HZ, K3⟩ := hrel
    clear K2
    have i0 : (0 : Int) ≤ (k : Int) := by omega
    by_cases hlt : k < r
    · obtain ⟨p, f1, f2, f3, f4, f5⟩ := HF.out k hlt
      have i1 : (k : Int) < r := by omega
      have hNA := fun w => HNA.out k w
      rw [f1, nlVal_some] at hNA
      have hAT := fun w => HAT.out p w
      rw [atV_in f2, f3] at hAT
      have hAH := fun w => HAH.out p w
      rw [Int.toNat_natCast, f4] at hAH
      have hAI := fun w => HAH.out ((p : Int) + 1) w
      rw [show ((p : Int) + 1).toNat = p + 1 by omega, f5] at hAI
      have N1 := Lib.hid hNA
      have N2 := Lib.hid hAT
      have N3 := Lib.hid hAH
      have N4 := Lib.hid hAI
      have hzp := HZ.out p f4
      have i2 : decide ((p : Int) ≤ z) = false := by rw [decide_eq_false_iff_not]; omega
      have hp32 : p < 32 := by omega
      have NX := Lib.hid (fun p' (h : nl (l.take p') = k + 1) => show (p : Int) < p' by
        apply Classical.byContradiction
        intro hn
        have := nl_mono l (show p' ≤ p by omega)
        omega)
      clear f1 f2 f3 f4 f5 hNA hAT hAH hAI hzp HNA HAT HAH HLA HWH HF HZ HNC HLN
      go_wp2_with (first
        | (refine wpList_load_roww 27 (.tmp 3) rfl _ rfl (by rfl) _ _ _ _ (K3.out.at_ (u0.heap.size, xs) (by simp)) Try.underlying27 rfl (info_chunk32 _ LX.out) ?_)
        | (go_at_call 19; with_reducible (refine (N1.out _).mono ?_); rintro e5 w5 ⟨rfl, b5⟩; have K3' := Lib.hid (K3.out.below b5); clear b5 K3; have K3 := K3'; clear K3')
        | (go_at_call 20; with_reducible (refine (N2.out _).mono ?_); rintro e5 w6 ⟨rfl, b5⟩; have K3' := Lib.hid (K3.out.below b5); clear b5 K3; have K3 := K3'; clear K3')
        | (go_at_call 17; with_reducible (refine (N3.out _).mono ?_); rintro e5 w7 ⟨rfl, b5⟩; have K3' := Lib.hid (K3.out.below b5); clear b5 K3; have K3 := K3'; clear K3')
        | (go_at_call 17; with_reducible (refine (N4.out _).mono ?_); rintro e5 w8 ⟨rfl, b5⟩; have K3' := Lib.hid (K3.out.below b5); clear b5 K3; have K3 := K3'; clear K3'))
      go_roundw
      case rel => exact ⟨k + 1, p, by omega, by go_num, rfl, by omega, by omega, NX, K3⟩
      case measure => simp [intOf] <;> omega
    · obtain rfl : k = r := by omega
      clear HNA HAT HAH HF HZ
      go_wp2
      refine region_classw (C := Vs w [(u0.heap.size, xs)]) (by kernel_rfl) (by kernel_rfl) (K3.out.below (below_drew _)) ?_
      repeat (first
        | (first
             | refine w_skip (by rfl) (by rfl) ?_
             | refine w_skipn (by rfl) (by rfl) ?_
           simp only [Act.put, List.setIfInBounds_toArray, List.set_cons_zero, List.set_cons_succ])
        | (first
             | refine w_val (v := .agg (row xs)) (by rfl) (fun w9 hS => x_load 27 (.tmp 3) rfl _ rfl _ _ _ _ (hS.at_ (u0.heap.size, xs) (by simp)) Try.underlying27 rfl (info_chunk32 _ LX.out)) ?_
             | refine w_valg (v := .agg (row xs)) (by rfl) (by rfl) (fun w9 hS => x_load 27 (.tmp 3) rfl _ rfl _ _ _ _ (hS.at_ (u0.heap.size, xs) (by simp)) Try.underlying27 rfl (info_chunk32 _ LX.out)) ?_
           simp only [Act.put, List.setIfInBounds_toArray, List.set_cons_zero, List.set_cons_succ])
        | (first
             | refine w_val (v := ?_) (by rfl) (fun w9 hS => ?_) ?_
             | refine w_valg (v := ?_) (by rfl) (by rfl) (fun w9 hS => ?_) ?_
           rotate_left
           · clear hS
             go_simp
             try with_reducible rfl
           simp only [Act.put, List.setIfInBounds_toArray, List.set_cons_zero, List.set_cons_succ])
        | (first
             | refine w_call (f := 16) (args := #[.agg (row xs)]) (by rfl) (fun w9 hS => ?_) (fun w9 hS => (HNC.out w9).mono fun e w' ⟨q1, q2⟩ => ⟨q1, hS.below q2⟩) ?_
             | refine w_callg (f := 16) (args := #[.agg (row xs)]) (by rfl) (by rfl) (fun w9 hS => ?_) (fun w9 hS => (HNC.out w9).mono fun e w' ⟨q1, q2⟩ => ⟨q1, hS.below q2⟩) ?_
           · clear hS
             go_simp
           simp only [Act.put, List.setIfInBounds_toArray, List.set_cons_zero, List.set_cons_succ])
        | (first
             | refine w_call (f := 19) (args := #[.agg (row xs), .int .i64 k]) (by rfl) (fun w9 hS => ?_) (fun w9 hS => (HLA.out w9).mono fun e w' ⟨q1, q2⟩ => ⟨q1, hS.below q2⟩) ?_
             | refine w_callg (f := 19) (args := #[.agg (row xs), .int .i64 k]) (by rfl) (by rfl) (fun w9 hS => ?_) (fun w9 hS => (HLA.out w9).mono fun e w' ⟨q1, q2⟩ => ⟨q1, hS.below q2⟩) ?_
           · clear hS
             go_simp
           simp only [Act.put, List.setIfInBounds_toArray, List.set_cons_zero, List.set_cons_succ]))
      refine w_end ?_
      intro W7 T7
      have K7 := Lib.hid T7
      clear T7 K3
      go_wp2
      refine region_classw (C := Vs w [(u0.heap.size, xs)]) (by kernel_rfl) (by kernel_rfl) (K7.out.below (below_drew _)) ?_
      repeat (first
        | (first
             | refine w_skip (by rfl) (by rfl) ?_
             | refine w_skipn (by rfl) (by rfl) ?_
           simp only [Act.put, List.setIfInBounds_toArray, List.set_cons_zero, List.set_cons_succ])
        | (first
             | refine w_val (v := .agg (row xs)) (by rfl) (fun w9 hS => x_load 27 (.tmp 3) rfl _ rfl _ _ _ _ (hS.at_ (u0.heap.size, xs) (by simp)) Try.underlying27 rfl (info_chunk32 _ LX.out)) ?_
             | refine w_valg (v := .agg (row xs)) (by rfl) (by rfl) (fun w9 hS => x_load 27 (.tmp 3) rfl _ rfl _ _ _ _ (hS.at_ (u0.heap.size, xs) (by simp)) Try.underlying27 rfl (info_chunk32 _ LX.out)) ?_
           simp only [Act.put, List.setIfInBounds_toArray, List.set_cons_zero, List.set_cons_succ])
        | (first
             | refine w_val (v := ?_) (by rfl) (fun w9 hS => ?_) ?_
             | refine w_valg (v := ?_) (by rfl) (by rfl) (fun w9 hS => ?_) ?_
           rotate_left
           · clear hS
             go_simp
             try with_reducible rfl
           simp only [Act.put, List.setIfInBounds_toArray, List.set_cons_zero, List.set_cons_succ])
        | (first
             | refine w_call (f := 18) (args := #[.agg (row xs)]) (by rfl) (fun w9 hS => ?_) (fun w9 hS => (HLN.out w9).mono fun e w' ⟨q1, q2⟩ => ⟨q1, hS.below q2⟩) ?_
             | refine w_callg (f := 18) (args := #[.agg (row xs)]) (by rfl) (by rfl) (fun w9 hS => ?_) (fun w9 hS => (HLN.out w9).mono fun e w' ⟨q1, q2⟩ => ⟨q1, hS.below q2⟩) ?_
           · clear hS
             go_simp
           simp only [Act.put, List.setIfInBounds_toArray, List.set_cons_zero, List.set_cons_succ])
        | (first
             | refine w_call (f := 17) (args := #[.agg (row xs), .int .i64 l.length]) (by rfl) (fun w9 hS => ?_) (fun w9 hS => (HWH.out w9).mono fun e w' ⟨q1, q2⟩ => ⟨q1, hS.below q2⟩) ?_
             | refine w_callg (f := 17) (args := #[.agg (row xs), .int .i64 l.length]) (by rfl) (by rfl) (fun w9 hS => ?_) (fun w9 hS => (HWH.out w9).mono fun e w' ⟨q1, q2⟩ => ⟨q1, hS.below q2⟩) ?_
           · clear hS
             go_simp
           simp only [Act.put, List.setIfInBounds_toArray, List.set_cons_zero, List.set_cons_succ])
        | (first
             | refine w_call (f := 16) (args := #[.agg (row xs)]) (by rfl) (fun w9 hS => ?_) (fun w9 hS => (HNC.out w9).mono fun e w' ⟨q1, q2⟩ => ⟨q1, hS.below q2⟩) ?_
             | refine w_callg (f := 16) (args := #[.agg (row xs)]) (by rfl) (by rfl) (fun w9 hS => ?_) (fun w9 hS => (HNC.out w9).mono fun e w' ⟨q1, q2⟩ => ⟨q1, hS.below q2⟩) ?_
           · clear hS
             go_simp
           simp only [Act.put, List.setIfInBounds_toArray, List.set_cons_zero, List.set_cons_succ])
        | (first
             | refine w_call (f := 9) (args := #[]) (by rfl) (fun w9 hS => ?_) (fun w9 hS => (HK.out w9).mono fun e w' ⟨q1, q2⟩ => ⟨q1, hS.below q2⟩) ?_
             | refine w_callg (f := 9) (args := #[]) (by rfl) (by rfl) (fun w9 hS => ?_) (fun w9 hS => (HK.out w9).mono fun e w' ⟨q1, q2⟩ => ⟨q1, hS.below q2⟩) ?_
           · clear hS
             go_simp
           simp only [Act.put, List.setIfInBounds_toArray, List.set_cons_zero, List.set_cons_succ]))
      refine w_end ?_
      intro W8 T8
      have K8 := Lib.hid T8
      clear T8 K7
      go_wp2
      go_ret
      exact ⟨rfl, K8.out.bel⟩
theorem lines_walk (v : Value) (l : List Int) (w : World) (h1 : Ints .i32 w v l) :
    Calls Try.prog 7 #[v] w fun e w' => e = .returned (.bool true) ∧ Below w.heap.size w w' := by
  by_cases hl : 1000 < l.length
  · exact lines_long v l w h1 hl
  · by_cases he : ofE l = 0
    · exact lines_all v l w h1 he
    · exact lines_none v l w h1 (by omega) he
end Go.Proofs.Ytckdmhklnnmjpaa
