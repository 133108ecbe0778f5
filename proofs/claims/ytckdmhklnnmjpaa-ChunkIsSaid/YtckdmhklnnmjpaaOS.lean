
import Derived.Test.YtckdmhklnnmjpaaOM
/- OS: ChunkIs -/
namespace Go.Proofs.Ytckdmhklnnmjpaa
open Go.RowKit
set_option linter.unusedVariables false

set_option maxRecDepth 100000 in
theorem is_long (v : Value) (l : List Int) (w : World) (h1 : Ints .i32 w v l) (hl : 1000 < l.length) :
    Calls Try.prog 3 #[v] w fun e w' => e = .returned (.bool true) ∧ Below w.heap.size w w' := by
  obtain ⟨a1, c1, rfl⟩ := h1.shape
  have l1 := h1.len
  have HK := Lib.hid (fun w => known9_any w)
  have g0 : (1000 : Int) < l.length := by omega
  clear h1 hl
  go_enter Try.func3, Try.ntmps3
  go_wp2_with (first
    | (go_at_call 9; refine (HK.out _).mono ?_; rintro e w99 ⟨rfl, b99⟩))
  go_ret
  exact ⟨rfl, b99⟩

set_option maxRecDepth 100000 in
set_option maxHeartbeats 1000000 in
theorem is_none (v : Value) (l : List Int) (w : World) (h1 : Ints .i32 w v l) (hl : l.length ≤ 1000) (he : ofE l ≠ 0) :
    Calls Try.prog 3 #[v] w fun e w' => e = .returned (.bool true) ∧ Below w.heap.size w w' := by
  obtain ⟨i0, hi, hz0, hz1, hz2⟩ := info_parts info32
  have HV := Lib.hid h1
  obtain ⟨a1, c1, rfl⟩ := h1.shape
  have ho := fun v w h => of_any v l w h
  unfold ofV cv at ho
  rw [ofL_not he, slots_nil] at ho
  have HRO := Lib.hid (fun w h => rof_any (.slice a1 l.length c1) l w h)
  have HSM := Lib.hid (fun v1 w h1 h2 => same9_any v1 (.slice a1 l.length c1) l l w h1 h2)
  rw [same9_yes] at HSM
  have LX := Lib.hid zero32_len
  have HK := Lib.hid (fun w => known9_any w)
  have hq3 : ∀ A : Array Value, A = row zero32 → ∀ w, (binOp .eql 27 (.agg A) (.agg (row zero32))).run Try.prog w = .ok (.bool true) w := by
    intro A hA w
    rw [hA, chunk_eql zero32 zero32 LX.out LX.out w]; rfl
  simp only [row, zero32, List.replicate, List.map] at hq3
  obtain ⟨xs, hxs⟩ : ∃ xs, zero32 = xs := ⟨_, rfl⟩
  have hq := hq3 (row xs) (by rw [← hxs]; rfl)
  have g0 : ¬ (1000 : Int) < l.length := by omega
  obtain ⟨e, hee⟩ : ∃ e, ofE l = e := ⟨_, rfl⟩
  rw [hee] at ho HRO he
  have HO1 := Lib.hid ho
  have hbe : (e == 0) = false := by rw [beq_eq_false_iff_ne]; exact he
  have hbe' : (e != 0) = true := by simp [bne, hbe]
  have hee' : (e != e) = false := by simp [bne]
  rw [hxs] at HO1 LX
  clear ho hee he h1 hq3 hxs
  go_enter Try.func3, Try.ntmps3
  go_wp2_with (first
    | (at_builtin; refine wpList_append_ints rfl (.tmp 11) (.tmp 12) 22 rfl w.heap.size 21 i0 (.int .i32 0) 4 Try.underlying22 hi hz0 hz1 hz2 rfl _ 0 [] rfl (owns_empty w 21) _ .i32 l rfl (HV.out.below ((Below.refl _ _).alloc (Nat.le_refl _) _)) (by unfold maxLen; omega) (by omega) (by simp) ?_; intro v1 w1 o1 g1; refine Hid.out ?_))
  have B1 := Lib.hid (((Below.refl w.heap.size w).alloc (Nat.le_refl _) (.cells #[] 21)).grown g1 (by simp) (fun k hk => ((owns_empty w 21).lt k hk).1))
  have O1 := Lib.hid (show w1.ownsRow w.heap.size 21 1 v1 l.length (l.map (Value.int .i32)) by simpa using o1)
  obtain ⟨ga, gcap, rfl⟩ := (ints_of_owns O1.out).shape
  have HGA := Lib.hid (show ∀ gb, ga = some ⟨gb, 0, none⟩ → gb < w1.heap.size from fun gb hgb => (O1.out.lt gb (by rw [hgb]; rfl)).2)
  clear o1 g1
  refine Lib.hid ?_
  go_wp2_with (first
    | (go_at_call 10; refine (HO1.out _ _ (ints_of_owns O1.out)).mono ?_; rintro e1 u0 ⟨rfl, b1⟩; have K0 := Lib.hid (show Vs w [] u0 from ⟨by simp, below_add B1.out b1 B1.out.size⟩); have O2 := Lib.hid (owns_below O1.out b1); have HGB := Lib.hid (show ∀ gb, ga = some ⟨gb, 0, none⟩ → gb < u0.heap.size from fun gb hgb => Nat.lt_of_lt_of_le (HGA.out gb hgb) b1.size); clear b1 HO1 HGA; refine Hid.out ?_))
  refine Lib.hid ?_
  go_wp2_with (first
    | (refine wpList_store_row rfl 27 (.tmp 4) (.tmp 17) rfl u0.heap.size (row xs) rfl rfl _ _ (rowAt_new _ _ zero32) (info_chunk32 _ LX.out) (by rw [row_size, row_size, LX.out]; rfl) (row_one _) ?_; refine with_worldL (fun W => Vs w [(u0.heap.size, xs)] W ∧ Below u0.heap.size u0 W) ⟨K0.out.new xs, (var_new xs (Below.refl _ u0)).bel⟩ fun W hW => ?_; have K1 := Lib.hid hW.1; have O3 := Lib.hid (owns_below O2.out hW.2); clear hW K0; refine Hid.out ?_))
  refine Lib.hid ?_
  go_wp2_with (first
    | (go_at_call 11; refine (HRO.out _ (HV.out.below K1.out.bel)).mono ?_; rintro e2 w2 ⟨rfl, rfl⟩)
    | (go_at_call 12; refine (HSM.out _ _ (ints_of_owns O3.out) (HV.out.below K1.out.bel)).mono ?_; rintro e3 w3 ⟨rfl, q, hq⟩; have K2 : Hid (Vs w [(u0.heap.size, xs)] w3) := Lib.hid (by rw [hq]; exact K1.out.below (blw_drewN (Below.refl _ _) q)); have O4 : Hid (w3.ownsRow w.heap.size 21 1 (.slice ga l.length gcap) l.length (l.map (Value.int .i32))) := Lib.hid (by rw [hq]; exact O3.out); clear hq K1)
    | (refine wpList_load_roww 27 (.tmp 4) rfl _ rfl (by rfl) _ _ _ _ (K2.out.at_ (u0.heap.size, xs) (by simp)) Try.underlying27 rfl (info_chunk32 _ LX.out) ?_)
    | (go_at_call 9; refine (HK.out _).mono ?_; rintro e w99 ⟨rfl, b99⟩))
  go_ret
  exact ⟨rfl, (K2.out.below b99).bel⟩

theorem vs_setOther {w W : World} {L : List (Nat × List Int)} (h : Vs w L W) {g j : Nat} (hg : w.heap.size ≤ g) (hne : ∀ p ∈ L, p.1 ≠ g) (v : Value) : Vs w L (W.setCell ⟨g, j, none⟩ v) :=
  ⟨fun p hp => (h.at_ p hp).other (hne p hp) v, h.bel.setCell hg v⟩

set_option maxRecDepth 100000 in
set_option maxHeartbeats 1000000 in
theorem is_all (v : Value) (l : List Int) (w : World) (h1 : Ints .i32 w v l) (he : ofE l = 0) :
    Calls Try.prog 3 #[v] w fun e w' => e = .returned (.bool true) ∧ Below w.heap.size w w' := by
  obtain ⟨i0, hi, hz0, hz1, hz2⟩ := info_parts info32
  have cl := chunky_of he
  have hl32 := cl.1
  have HV := Lib.hid h1
  obtain ⟨a1, c1, rfl⟩ := h1.shape
  have ho := fun v w h => of_any v l w h
  rw [ofV_ok he] at ho
  have hro := fun w h => rof_any (.slice a1 l.length c1) l w h
  rw [he] at hro
  have HRO := Lib.hid hro
  have HSM := Lib.hid (fun v1 w h1 h2 => same9_any v1 (.slice a1 l.length c1) l l w h1 h2)
  rw [same9_yes] at HSM
  have HIS := Lib.hid (fun w h => is_any l cl (.slice a1 l.length c1) w h)
  unfold cv at HIS
  have LX := Lib.hid (slots_len cl.1)
  have HK := Lib.hid (fun w => known9_any w)
  have g0 : ¬ (1000 : Int) < l.length := by omega
  obtain ⟨xs, hxs⟩ : ∃ xs, slots l = xs := ⟨_, rfl⟩
  rw [hxs] at ho LX HIS
  have HO1 := Lib.hid ho
  clear ho hro h1 hxs cl he
  go_enter Try.func3, Try.ntmps3
  go_wp2_with (first
    | (at_builtin; refine wpList_append_ints rfl (.tmp 11) (.tmp 12) 22 rfl w.heap.size 21 i0 (.int .i32 0) 4 Try.underlying22 hi hz0 hz1 hz2 rfl _ 0 [] rfl (owns_empty w 21) _ .i32 l rfl (HV.out.below ((Below.refl _ _).alloc (Nat.le_refl _) _)) (by unfold maxLen; omega) (by omega) (by simp) ?_; intro v1 w1 o1 g1; refine Hid.out ?_))
  have B1 := Lib.hid (((Below.refl w.heap.size w).alloc (Nat.le_refl _) (.cells #[] 21)).grown g1 (by simp) (fun k hk => ((owns_empty w 21).lt k hk).1))
  have O1 := Lib.hid (show w1.ownsRow w.heap.size 21 1 v1 l.length (l.map (Value.int .i32)) by simpa using o1)
  obtain ⟨ga, gcap, rfl⟩ := (ints_of_owns O1.out).shape
  have HGA := Lib.hid (show ∀ gb, ga = some ⟨gb, 0, none⟩ → gb < w1.heap.size from fun gb hgb => (O1.out.lt gb (by rw [hgb]; rfl)).2)
  clear o1 g1
  refine Lib.hid ?_
  go_wp2_with (first
    | (go_at_call 10; refine (HO1.out _ _ (ints_of_owns O1.out)).mono ?_; rintro e1 u0 ⟨rfl, b1⟩; have K0 := Lib.hid (show Vs w [] u0 from ⟨by simp, below_add B1.out b1 B1.out.size⟩); have O2 := Lib.hid (owns_below O1.out b1); have HGB := Lib.hid (show ∀ gb, ga = some ⟨gb, 0, none⟩ → gb < u0.heap.size from fun gb hgb => Nat.lt_of_lt_of_le (HGA.out gb hgb) b1.size); clear b1 HO1 HGA; refine Hid.out ?_))
  refine Lib.hid ?_
  go_wp2_with (first
    | (refine wpList_store_row rfl 27 (.tmp 4) (.tmp 17) rfl u0.heap.size (row xs) rfl rfl _ _ (rowAt_new _ _ zero32) (info_chunk32 _ LX.out) (by rw [row_size, row_size, LX.out]; rfl) (row_one _) ?_; refine with_worldL (fun W => Vs w [(u0.heap.size, xs)] W ∧ Below u0.heap.size u0 W) ⟨K0.out.new xs, (var_new xs (Below.refl _ u0)).bel⟩ fun W hW => ?_; have K1 := Lib.hid hW.1; have O3 := Lib.hid (owns_below O2.out hW.2); clear hW K0; refine Hid.out ?_))
  refine Lib.hid ?_
  go_wp2_with (first
    | (go_at_call 11; refine (HRO.out _ (HV.out.below K1.out.bel)).mono ?_; rintro e2 w2 ⟨rfl, rfl⟩)
    | (go_at_call 12; refine (HSM.out _ _ (ints_of_owns O3.out) (HV.out.below K1.out.bel)).mono ?_; rintro e3 w3 ⟨rfl, q, hq⟩; have K2 : Hid (Vs w [(u0.heap.size, xs)] w3) := Lib.hid (by rw [hq]; exact K1.out.below (blw_drewN (Below.refl _ _) q)); have O4 : Hid (w3.ownsRow w.heap.size 21 1 (.slice ga l.length gcap) l.length (l.map (Value.int .i32))) := Lib.hid (by rw [hq]; exact O3.out); clear hq K1))
  go_loopw [39] (fun s39 wr => ∃ k : Nat, k ≤ l.length ∧ s39 = .int .i64 k ∧ Hid ((∃ cs, wr.ownsRow w.heap.size 21 1 (.slice ga l.length gcap) l.length cs) ∧ Vs w [(u0.heap.size, xs)] wr)) (fun s39 _ => l.length - (intOf s39).toNat)
  case atStart => exact ⟨0, Nat.zero_le _, rfl, Lib.hid ⟨⟨_, O4.out⟩, K2.out⟩⟩
  case round =>
    rename_i wr
    obtain ⟨k, hk, rfl, HR⟩ := hrel
    have i0' : (0 : Int) ≤ (k : Int) := by omega
    by_cases hlt : k < l.length
    · obtain ⟨⟨cs, ho⟩, hb⟩ := HR.out
      obtain ⟨gb, rfl, hgb⟩ := owns_shape ho (by omega)
      have hgl := HGB.out gb rfl
      have i1 : (k : Int) < l.length := by omega
      have hf := ho.frozenAt k
      have hc : ∃ v, wr.cell? ⟨gb, k, none⟩ = some v := by
        rw [ho.cellAt k (by omega)]
        have hsz := ho.1
        exact ⟨cs[k]'(by omega), List.getElem?_eq_getElem (by omega)⟩
      obtain ⟨v0, hc⟩ := hc
      have HE := Lib.hid (show (∃ cs, (wr.setCell ⟨gb, k, none⟩ (.int .i32 99)).ownsRow w.heap.size 21 1 (.slice (some ⟨gb, 0, none⟩) l.length gcap) l.length cs) ∧ Vs w [(u0.heap.size, xs)] (wr.setCell ⟨gb, k, none⟩ (.int .i32 99)) from ⟨⟨_, (ho.stored k _).1⟩, vs_setOther hb hgb (fun p hp => by simp at hp; subst hp; simp; omega) _⟩)
      clear ho hb HR O4 K2 HGB HIS
      go_wp2
      go_roundw
      case rel => exact ⟨k + 1, by omega, by go_num, HE⟩
      case measure => simp [intOf] <;> omega
    · obtain rfl : k = l.length := by omega
      have K5 := Lib.hid HR.out.2
      clear O4 K2 HR HGB
      go_wp2_with (first
        | (refine wpList_load_roww 27 (.tmp 4) rfl _ rfl (by rfl) _ _ _ _ (K5.out.at_ (u0.heap.size, xs) (by simp)) Try.underlying27 rfl (info_chunk32 _ LX.out) ?_)
        | (go_at_call 13; refine (HIS.out _ (HV.out.below K5.out.bel)).mono ?_; rintro e6 w6 ⟨rfl, b6⟩; have K6 := Lib.hid (K5.out.below b6); clear b6 K5)
        | (go_at_call 9; refine (HK.out _).mono ?_; rintro e w99 ⟨rfl, b99⟩))
      go_ret
      exact ⟨rfl, (K6.out.below b99).bel⟩
theorem is_walk (v : Value) (l : List Int) (w : World) (h1 : Ints .i32 w v l) :
    Calls Try.prog 3 #[v] w fun e w' => e = .returned (.bool true) ∧ Below w.heap.size w w' := by
  by_cases hl : 1000 < l.length
  · exact is_long v l w h1 hl
  · by_cases he : ofE l = 0
    · exact is_all v l w h1 he
    · exact is_none v l w h1 (by omega) he
end Go.Proofs.Ytckdmhklnnmjpaa
