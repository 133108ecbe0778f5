import Derived.Test.YtkacgfoglfoaiaaL2
import Derived.Test.YtkacgfoglfoaiaaM3
namespace Go.Proofs.Ytkacgfoglfoaiaa
open Go.RowKit
set_option linter.unusedVariables false

theorem allMay_app (a b : List Int) : allMay (a ++ b) = (allMay a && allMay b) := by simp [allMay]
theorem utfZ_app (a b : List Int) : utfZ (a ++ b) = utfZ a ++ utfZ b := by simp [utfZ]
theorem nl_app (a b : List Int) : nl (a ++ b) = nl a + nl b := by simp [nl]

theorem str_app (p q : List Int) : strOfNums (p ++ q) = strOfNums p ++ strOfNums q := by
  apply ByteArray.ext
  rw [ByteArray.data_append]
  unfold strOfNums
  simp

theorem Ints.opened {k : IntKind} {w : World} {a : Option Addr} {n cap : Nat} {xs : List Int} (h : Ints k w (.slice a n cap) xs) (h0 : 0 < xs.length) :
    ∃ b off, a = some ⟨b, off, none⟩ ∧ n = xs.length ∧ xs.length ≤ cap ∧ cap ≤ maxLen ∧ (∀ j, j < xs.length → w.cell? ⟨b, off + j, none⟩ = some (.int k (xs.getD j 0))) := by
  rcases h with ⟨a, cap, hv, rfl, _⟩ | ⟨b, off, cap', hv, _, h1, hm, hc⟩
  · simp at h0
  · injection hv with e1 e2 e3
    subst e1 e2 e3
    exact ⟨b, off, rfl, rfl, h1, hm, hc⟩
theorem Ints.head {k : IntKind} {w : World} {b off cap j : Nat} {xs : List Int} (hj : j ≤ xs.length) (h1 : xs.length ≤ cap) (hm : cap ≤ maxLen)
    (hc : ∀ j, j < xs.length → w.cell? ⟨b, off + j, none⟩ = some (.int k (xs.getD j 0))) : Ints k w (.slice (some ⟨b, off, none⟩) j cap) (xs.take j) := by
  have hl : (xs.take j).length = j := by rw [List.length_take]; omega
  by_cases h0 : j = 0
  · subst h0
    exact .inl ⟨_, cap, rfl, by simp, hm, by simp⟩
  · refine .inr ⟨b, off, cap, by rw [hl], by omega, by omega, hm, fun i hi => ?_⟩
    rw [hl] at hi
    rw [hc i (by omega)]
    simp [List.getD, hi]
theorem drop_last (xs : List Int) (h : 0 < xs.length) : ∃ x, xs.drop (xs.length - 1) = [x] ∧ xs = xs.take (xs.length - 1) ++ [x] := by
  obtain ⟨x, hx⟩ : ∃ x, xs.drop (xs.length - 1) = [x] := by
    have hl : (xs.drop (xs.length - 1)).length = 1 := by rw [List.length_drop]; omega
    exact List.length_eq_one_iff.1 hl
  exact ⟨x, hx, by rw [← hx, List.take_append_drop]⟩

set_option maxHeartbeats 1000000 in
set_option maxRecDepth 100000 in
theorem join_ff (v1 v2 : Value) (xs ys : List Int) (w : World) (hv1 : Ints .i32 w v1 xs) (hv2 : Ints .i32 w v2 ys) (hx : ¬ 1000 < xs.length) (hy : ¬ 1000 < ys.length) (ha : allMay xs = false) (hb : allMay ys = false) :
    Calls Try.prog 5 #[v1, v2] w fun e w' => e = .returned (.bool true) ∧ Below w.heap.size w w' := by
  have HA := Lib.hid ha
  have HBB := Lib.hid hb
  clear ha hb
  have l1 := hv1.len
  have l2 := hv2.len
  obtain ⟨i0, hi, hz0, hz1, hz2⟩ := info_parts info21
  have HV1 := Lib.hid hv1
  have HV2 := Lib.hid hv2
  obtain ⟨a, cap, hva⟩ := hv1.shape
  obtain ⟨a2, cap2, hva2⟩ := hv2.shape
  subst hva
  subst hva2
  clear hv1 hv2
  have n1 := nl_le xs
  have n2 := nl_le ys
  have n3 := nl_app xs ys
  go_enter Try.func5, Try.ntmps5
  go_wp2_with fail
  refine ((bytes_any _ _ _ HV1.out (by omega)).mono (fun _ _ h => bytes_out h)).mono ?_
  rintro e w1 ⟨b1, x, rfl, ix⟩
  have iv2 := HV2.out.below b1
  go_wp2_with (go_at_call 8; refine ((bytes_any _ _ _ iv2 (by omega)).mono (fun _ _ h => bytes_out h)).mono ?_)
  rintro e w2 ⟨b12, y, rfl, iy⟩
  have b2 := b1.trans (b12.mono b1.size)
  have ix2 := ix.below b12
  have o1 := owns_empty w2 21
  have ba : Below w2.heap.size w2 (w2.alloc (.cells #[] 21)) := (Below.refl _ _).alloc (Nat.le_refl _) _
  have il := (HV1.out.below b2).below ba
  clear b1 b12 ix iv2
  go_wp2_with (at_builtin; refine wpList_append_ints rfl (.tmp 36) (.tmp 37) 22 rfl w2.heap.size 21 i0 (.int .i32 0) 4 Try.underlying22 hi hz0 hz1 hz2 rfl _ 0 [] rfl o1 _ .i32 xs rfl il (by unfold maxLen; omega) (by omega) (by simp) ?_)
  intro v3 w3 hown3 hg3
  try simp only [Nat.zero_add, List.nil_append] at hown3
  have b23 : Below w2.heap.size w2 w3 := ba.grown hg3 (by simp) (fun k hk => by simp [Value.ownBlock] at hk; omega)
  have il2 := (HV2.out.below b2).below b23
  have hr3 := hown3.lt
  clear o1 il ba hg3
  go_wp2_with (at_builtin; refine wpList_append_ints rfl (.tmp 38) (.tmp 39) 22 rfl w2.heap.size 21 i0 (.int .i32 0) 4 Try.underlying22 hi hz0 hz1 hz2 rfl _ _ _ rfl hown3 _ .i32 ys rfl il2 (by unfold maxLen; omega) (by omega) (by have := b23.size; omega) ?_)
  intro v4 w4 hown4 hg4
  rw [← List.map_append] at hown4
  have b24 : Below w2.heap.size w2 w4 := b23.grown hg4 (by have := b23.size; omega) (fun k hk => (hr3 k hk).1)
  have b4 := b2.trans (b24.mono b2.size)
  have ib := (Ints.of_owns hown4).1
  have ix4 := ix2.below b24
  have iy4 := iy.below b24
  have hl : (xs ++ ys).length ≤ 2000 := by rw [List.length_append]; omega
  clear b2 b23 b24 il2 hr3 hown3 hown4 hg4 ix2 iy
  go_wp2_with (go_at_call 8; refine ((bytes_any _ _ _ ib (by omega)).mono (fun _ _ h => bytes_out h)).mono ?_)
  rintro e w5 ⟨b45, z, rfl, iz⟩
  have b5 := b4.trans (b45.mono b4.size)
  have ib5 := ib.below b45
  have ix5 := ix4.below b45
  have iy5 := iy4.below b45
  have il5 := HV1.out.below b5
  have ir5 := HV2.out.below b5
  clear b4 b45 ib ix4 iy4 hl
  have N3 := newlines_any _ _ _ ib5
  rw [n3] at N3
  have HN3 := Lib.hid N3
  clear n3 N3
  have ha := HA.out
  have hb := HBB.out
  have hab : allMay (xs ++ ys) = false := by rw [allMay_app, ha]; rfl
  have e1 : bErr xs = 3 := by simp [bErr, ha]
  have e3 : bErr (xs ++ ys) = 3 := by simp [bErr, hab]
  rw [e1, e3]
  clear e1 e3 ix5 iy5 iz
  have e2 : bErr ys = 3 := by simp [bErr, hb]
  rw [e2]
  clear e2
  go_wp2_with fail
  refine HN3.out.mono ?_
  rintro e w' ⟨rfl, rfl⟩
  go_wp2_with fail
  refine (newlines_any _ _ _ il5).mono ?_
  rintro e w' ⟨rfl, rfl⟩
  go_wp2_with fail
  refine (newlines_any _ _ _ ir5).mono ?_
  rintro e w' ⟨rfl, rfl⟩
  go_wp2_with fail
  refine (known_any _).mono ?_
  rintro e w' ⟨rfl, hb6⟩
  go_wp2_with fail
  go_ret
  exact ⟨rfl, b5.trans (hb6.mono b5.size)⟩

set_option maxHeartbeats 1000000 in
set_option maxRecDepth 100000 in
theorem join_ft (v1 v2 : Value) (xs ys : List Int) (w : World) (hv1 : Ints .i32 w v1 xs) (hv2 : Ints .i32 w v2 ys) (hx : ¬ 1000 < xs.length) (hy : ¬ 1000 < ys.length) (ha : allMay xs = false) (hb : allMay ys = true) :
    Calls Try.prog 5 #[v1, v2] w fun e w' => e = .returned (.bool true) ∧ Below w.heap.size w w' := by
  have HA := Lib.hid ha
  have HBB := Lib.hid hb
  clear ha hb
  have l1 := hv1.len
  have l2 := hv2.len
  obtain ⟨i0, hi, hz0, hz1, hz2⟩ := info_parts info21
  have HV1 := Lib.hid hv1
  have HV2 := Lib.hid hv2
  obtain ⟨a, cap, hva⟩ := hv1.shape
  obtain ⟨a2, cap2, hva2⟩ := hv2.shape
  subst hva
  subst hva2
  clear hv1 hv2
  have n1 := nl_le xs
  have n2 := nl_le ys
  have n3 := nl_app xs ys
  go_enter Try.func5, Try.ntmps5
  go_wp2_with fail
  refine ((bytes_any _ _ _ HV1.out (by omega)).mono (fun _ _ h => bytes_out h)).mono ?_
  rintro e w1 ⟨b1, x, rfl, ix⟩
  have iv2 := HV2.out.below b1
  go_wp2_with (go_at_call 8; refine ((bytes_any _ _ _ iv2 (by omega)).mono (fun _ _ h => bytes_out h)).mono ?_)
  rintro e w2 ⟨b12, y, rfl, iy⟩
  have b2 := b1.trans (b12.mono b1.size)
  have ix2 := ix.below b12
  have o1 := owns_empty w2 21
  have ba : Below w2.heap.size w2 (w2.alloc (.cells #[] 21)) := (Below.refl _ _).alloc (Nat.le_refl _) _
  have il := (HV1.out.below b2).below ba
  clear b1 b12 ix iv2
  go_wp2_with (at_builtin; refine wpList_append_ints rfl (.tmp 36) (.tmp 37) 22 rfl w2.heap.size 21 i0 (.int .i32 0) 4 Try.underlying22 hi hz0 hz1 hz2 rfl _ 0 [] rfl o1 _ .i32 xs rfl il (by unfold maxLen; omega) (by omega) (by simp) ?_)
  intro v3 w3 hown3 hg3
  try simp only [Nat.zero_add, List.nil_append] at hown3
  have b23 : Below w2.heap.size w2 w3 := ba.grown hg3 (by simp) (fun k hk => by simp [Value.ownBlock] at hk; omega)
  have il2 := (HV2.out.below b2).below b23
  have hr3 := hown3.lt
  clear o1 il ba hg3
  go_wp2_with (at_builtin; refine wpList_append_ints rfl (.tmp 38) (.tmp 39) 22 rfl w2.heap.size 21 i0 (.int .i32 0) 4 Try.underlying22 hi hz0 hz1 hz2 rfl _ _ _ rfl hown3 _ .i32 ys rfl il2 (by unfold maxLen; omega) (by omega) (by have := b23.size; omega) ?_)
  intro v4 w4 hown4 hg4
  rw [← List.map_append] at hown4
  have b24 : Below w2.heap.size w2 w4 := b23.grown hg4 (by have := b23.size; omega) (fun k hk => (hr3 k hk).1)
  have b4 := b2.trans (b24.mono b2.size)
  have ib := (Ints.of_owns hown4).1
  have ix4 := ix2.below b24
  have iy4 := iy.below b24
  have hl : (xs ++ ys).length ≤ 2000 := by rw [List.length_append]; omega
  clear b2 b23 b24 il2 hr3 hown3 hown4 hg4 ix2 iy
  go_wp2_with (go_at_call 8; refine ((bytes_any _ _ _ ib (by omega)).mono (fun _ _ h => bytes_out h)).mono ?_)
  rintro e w5 ⟨b45, z, rfl, iz⟩
  have b5 := b4.trans (b45.mono b4.size)
  have ib5 := ib.below b45
  have ix5 := ix4.below b45
  have iy5 := iy4.below b45
  have il5 := HV1.out.below b5
  have ir5 := HV2.out.below b5
  clear b4 b45 ib ix4 iy4 hl
  have N3 := newlines_any _ _ _ ib5
  rw [n3] at N3
  have HN3 := Lib.hid N3
  clear n3 N3
  have ha := HA.out
  have hb := HBB.out
  have hab : allMay (xs ++ ys) = false := by rw [allMay_app, ha]; rfl
  have e1 : bErr xs = 3 := by simp [bErr, ha]
  have e3 : bErr (xs ++ ys) = 3 := by simp [bErr, hab]
  rw [e1, e3]
  clear e1 e3 ix5 iy5 iz
  have e2 : bErr ys = 0 := by simp [bErr, hb]
  rw [e2]
  clear e2
  go_wp2_with fail
  refine HN3.out.mono ?_
  rintro e w' ⟨rfl, rfl⟩
  go_wp2_with fail
  refine (newlines_any _ _ _ il5).mono ?_
  rintro e w' ⟨rfl, rfl⟩
  go_wp2_with fail
  refine (newlines_any _ _ _ ir5).mono ?_
  rintro e w' ⟨rfl, rfl⟩
  go_wp2_with fail
  refine (known_any _).mono ?_
  rintro e w' ⟨rfl, hb6⟩
  go_wp2_with fail
  go_ret
  exact ⟨rfl, b5.trans (hb6.mono b5.size)⟩

end Go.Proofs.Ytkacgfoglfoaiaa
