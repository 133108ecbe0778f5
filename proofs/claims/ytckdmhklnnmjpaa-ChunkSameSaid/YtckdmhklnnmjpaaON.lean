
import Derived.Test.YtckdmhklnnmjpaaOM
/- ON: ChunkSame where both are chunks -/
namespace Go.Proofs.Ytckdmhklnnmjpaa
open Go.RowKit
set_option linter.unusedVariables false

theorem take_eq_succ {l m : List Int} {k : Nat} (hl : k < l.length) (hm : k < m.length) (h : l.take k = m.take k) (he : l.getD k 0 = m.getD k 0) : l.take (k + 1) = m.take (k + 1) := by
  rw [take_snoc l k hl, take_snoc m k hm, h, he]
theorem ne_at {l m : List Int} {k : Nat} (he : l.getD k 0 ≠ m.getD k 0) : l ≠ m := fun h => he (by rw [h])

set_option maxRecDepth 100000 in
set_option maxHeartbeats 1000000 in
theorem same_both (v1 v2 : Value) (l m : List Int) (w : World) (h1 : Ints .i32 w v1 l) (h2 : Ints .i32 w v2 m) (he : ofE l = 0) (hf : ofE m = 0) :
    Calls Try.prog 6 #[v1, v2] w fun e w' => e = .returned (.bool true) ∧ Below w.heap.size w w' := by
  have cl := chunky_of he
  have cm := chunky_of hf
  have hl32 := cl.1
  have hm32 := cm.1
  have H1 := Lib.hid h1
  have H2 := Lib.hid h2
  have ho1 := of_any v1 l w h1
  have ho2 := fun v w h => of_any v m w h
  rw [ofV_ok he] at ho1
  rw [ofV_ok hf] at ho2
  have HO1 := Lib.hid ho1
  have HO2 := Lib.hid ho2
  have LX := Lib.hid (slots_len cl.1)
  have LY := Lib.hid (slots_len cm.1)
  have HK := Lib.hid (fun w => known9_any w)
  have hq := fun w => chunk_eql (slots l) (slots m) LX.out LY.out w
  rw [slots_beq cl cm] at hq
  obtain ⟨d, hd⟩ : ∃ d, (l == m) = d := ⟨_, rfl⟩
  rw [hd] at hq
  have HD := Lib.hid hd
  obtain ⟨a1, c1, rfl⟩ := h1.shape
  obtain ⟨a2, c2, rfl⟩ := h2.shape
  have g0 : ¬ (1000 : Int) < l.length := by omega
  have g1 : ¬ (1000 : Int) < m.length := by omega
  obtain ⟨xs, hxs⟩ : ∃ xs, slots l = xs := ⟨_, rfl⟩
  obtain ⟨ys, hys⟩ : ∃ ys, slots m = ys := ⟨_, rfl⟩
  rw [hxs] at HO1 LX hq
  rw [hys] at HO2 LY hq
  clear hxs hys h1 h2 ho1 ho2 cl cm he hf hd
  obtain ⟨n, hn⟩ : ∃ n, l.length = n := ⟨_, rfl⟩
  obtain ⟨k0, hk0⟩ : ∃ k0, m.length = k0 := ⟨_, rfl⟩
  rw [hn] at g0 hl32 HO1 H1 ⊢
  rw [hk0] at g1 hm32 H2 ⊢
  have HN := Lib.hid hn
  have HM := Lib.hid hk0
  clear hn hk0
  obtain ⟨s, hs⟩ : ∃ s, ((n : Int) == k0) = s := ⟨_, rfl⟩
  have HS := Lib.hid (show s = true → n = k0 by intro h; rw [h, beq_iff_eq] at hs; omega)
  have HS2 := Lib.hid (show s = false → l ≠ m by intro h e; rw [h] at hs; have : n = k0 := by rw [← HN.out, ← HM.out, e]
                                                 subst this; simp at hs)
  go_enter Try.func6, Try.ntmps6
  go_wp2_with (first
    | (go_at_call 10; refine HO1.out.mono ?_; rintro e1 w1 ⟨rfl, b1⟩; have K1 := Lib.hid ((Vs.none w).below b1); have H3 := Lib.hid (H2.out.below b1); have G3 := Lib.hid (H1.out.below b1); clear b1 H1 H2 HO1; refine Hid.out ?_))
  refine Lib.hid ?_
  go_wp2_with (first
    | (refine wpList_store_row rfl 27 (.tmp 5) (.tmp 23) rfl w1.heap.size (row xs) rfl rfl _ _ (rowAt_new w1 _ zero32) (info_chunk32 _ LX.out) (by rw [row_size, row_size, LX.out]; rfl) (row_one _) ?_; refine with_worldL (fun W => Vs w [(w1.heap.size, xs)] W ∧ Ints .i32 W (.slice a1 n c1) l ∧ Ints .i32 W (.slice a2 k0 c2) m) ⟨K1.out.new xs, G3.out.below (var_new xs (Below.refl _ w1)).bel, H3.out.below (var_new xs (Below.refl _ w1)).bel⟩ fun W2 hW => ?_; have K2 := Lib.hid hW.1; have G4 := Lib.hid hW.2.1; have H4 := Lib.hid hW.2.2; clear hW K1 H3 G3; refine Hid.out ?_))
  refine Lib.hid ?_
  go_wp2_with (first
    | (go_at_call 10; refine (HO2.out _ _ H4.out).mono ?_; rintro e2 w3 ⟨rfl, b3⟩; have K3 := Lib.hid (K2.out.below b3); have H5 := Lib.hid (H4.out.below b3); have G5 := Lib.hid (G4.out.below b3); clear b3 H4 G4 HO2 K2; refine Hid.out ?_))
  refine Lib.hid ?_
  go_wp2_with (first
    | (refine wpList_store_row rfl 27 (.tmp 7) (.tmp 28) rfl w3.heap.size (row ys) rfl rfl _ _ (rowAt_new w3 _ zero32) (info_chunk32 _ LY.out) (by rw [row_size, row_size, LY.out]; rfl) (row_one _) ?_; refine with_worldL (fun W => Vs w [(w3.heap.size, ys), (w1.heap.size, xs)] W ∧ Ints .i32 W (.slice a1 n c1) l ∧ Ints .i32 W (.slice a2 k0 c2) m) ⟨K3.out.new ys, G5.out.below (var_new ys (Below.refl _ w3)).bel, H5.out.below (var_new ys (Below.refl _ w3)).bel⟩ fun W4 hW => ?_; have K4 := Lib.hid hW.1; have G6 := Lib.hid hW.2.1; have H6 := Lib.hid hW.2.2; clear hW K3 H5 G5; refine Hid.out ?_))
  refine Lib.hid ?_
  go_wp2
  go_loopw [9, 10] (fun s9 s10 wr => ∃ (k q : Nat) (b : Bool), k ≤ n ∧ s10 = .int .i64 k ∧ s9 = .bool b ∧ Hid ((b = true → l.take k = m.take k ∧ n = k0) ∧ (b = false → l ≠ m)) ∧ wr = W4.drewN q) (fun _ s10 _ => n - (intOf s10).toNat)
  case atStart => exact ⟨0, 0, s, Nat.zero_le _, rfl, rfl, Lib.hid ⟨fun h => ⟨by simp, HS.out h⟩, HS2.out⟩, rfl⟩
  case round =>
    obtain ⟨k, q, b, hk, rfl, rfl, HB, rfl⟩ := hrel
    have i0 : (0 : Int) ≤ (k : Int) := by omega
    cases b
    · have hd : d = false := by rw [← HD.out, beq_eq_false_iff_ne]; exact HB.out.2 rfl
      subst hd
      have K5 := Lib.hid (K4.out.below (blw_drewN (Below.refl _ _) q))
      clear HB HS HS2 HD
      go_wp2_with (first
        | (refine wpList_load_roww 27 (.tmp 5) rfl _ rfl (by rfl) _ _ _ _ (K5.out.at_ (w1.heap.size, xs) (by simp)) Try.underlying27 rfl (info_chunk32 _ LX.out) ?_)
        | (refine wpList_load_roww 27 (.tmp 7) rfl _ rfl (by rfl) _ _ _ _ (K5.out.at_ (w3.heap.size, ys) (by simp)) Try.underlying27 rfl (info_chunk32 _ LY.out) ?_)
        | (go_at_call 9; refine (HK.out _).mono ?_; rintro e w5 ⟨rfl, b5⟩))
      go_ret
      exact ⟨rfl, (K5.out.below b5).bel⟩
    · obtain ⟨ht, rfl⟩ := HB.out.1 rfl
      by_cases hlt : k < n
      · have i1 : (k : Int) < n := by omega
        obtain ⟨p1, o1, rfl, -, -, -, hc1⟩ := G6.out.opened (by rw [HN.out]; omega)
        obtain ⟨p2, o2, rfl, -, -, -, hc2⟩ := H6.out.opened (by rw [HM.out]; omega)
        have hx := hc1 k (by rw [HN.out]; exact hlt)
        have hy := hc2 k (by rw [HM.out]; exact hlt)
        have YES := Lib.hid (take_eq_succ (by rw [HN.out]; exact hlt) (by rw [HM.out]; exact hlt) ht)
        have NO := Lib.hid (fun he => @ne_at l m k he)
        obtain ⟨x, hxx⟩ : ∃ x, l.getD k 0 = x := ⟨_, rfl⟩
        obtain ⟨y, hyy⟩ : ∃ y, m.getD k 0 = y := ⟨_, rfl⟩
        rw [hxx] at hx YES NO
        rw [hyy] at hy YES NO
        clear hc1 hc2 hxx hyy ht HB HS HS2 hq
        obtain ⟨t, htt⟩ : ∃ t, (x == y) = t := ⟨_, rfl⟩
        have HT := Lib.hid (show (t = true → l.take (k + 1) = m.take (k + 1) ∧ n = n) ∧ (t = false → l ≠ m) from
          ⟨fun h => ⟨YES.out (by rw [h] at htt; simpa using htt), rfl⟩, fun h => NO.out (by rw [h] at htt; simpa using htt)⟩)
        clear YES NO
        go_wp2
        go_quiet (fail)
        go_wp2
        go_roundw
        case rel => exact ⟨k + 1, q + nq, t, by omega, by go_num, rfl, HT, rfl⟩
        case measure => simp [intOf]; omega
      · obtain rfl : k = n := by omega
        have hd : d = true := by
          rw [← HD.out, beq_iff_eq]
          rw [List.take_of_length_le (by rw [HN.out]; exact Nat.le_refl _), List.take_of_length_le (by rw [HM.out]; exact Nat.le_refl _)] at ht
          exact ht
        subst hd
        have K5 := Lib.hid (K4.out.below (blw_drewN (Below.refl _ _) q))
        clear HB HS HS2 HD ht
        go_wp2_with (first
          | (refine wpList_load_roww 27 (.tmp 5) rfl _ rfl (by rfl) _ _ _ _ (K5.out.at_ (w1.heap.size, xs) (by simp)) Try.underlying27 rfl (info_chunk32 _ LX.out) ?_)
          | (refine wpList_load_roww 27 (.tmp 7) rfl _ rfl (by rfl) _ _ _ _ (K5.out.at_ (w3.heap.size, ys) (by simp)) Try.underlying27 rfl (info_chunk32 _ LY.out) ?_)
          | (go_at_call 9; refine (HK.out _).mono ?_; rintro e w5 ⟨rfl, b5⟩))
        go_ret
        exact ⟨rfl, (K5.out.below b5).bel⟩
end Go.Proofs.Ytckdmhklnnmjpaa

namespace Go.Proofs.Ytckdmhklnnmjpaa
open Go.RowKit
theorem same_walk (v1 v2 : Value) (l m : List Int) (w : World) (h1 : Ints .i32 w v1 l) (h2 : Ints .i32 w v2 m) :
    Calls Try.prog 6 #[v1, v2] w fun e w' => e = .returned (.bool true) ∧ Below w.heap.size w w' := by
  by_cases hl : 1000 < l.length ∨ 1000 < m.length
  · exact same_long v1 v2 l m w h1 h2 hl
  · by_cases he : ofE l ≠ 0 ∨ ofE m ≠ 0
    · exact same_none v1 v2 l m w h1 h2 (by omega) (by omega) he
    · exact same_both v1 v2 l m w h1 h2 (by omega) (by omega)
end Go.Proofs.Ytckdmhklnnmjpaa
