import Derived.Test.YtkacgfoglfoaiaaL1
import Derived.Test.YtkacgfoglfoaiaaA11
import Derived.Test.YtkacgfoglfoaiaaW
namespace Go.Proofs.Ytkacgfoglfoaiaa
open Go.RowKit
set_option linter.unusedVariables false

def bOut (xs : List Int) : List Int := if allMay xs then utfZ xs else []
def bErr (xs : List Int) : Int := if allMay xs then 0 else 3
def rOut (bs : List Int) : List Int := (readL (bl bs)).getD []
def rErr (bs : List Int) : Int := if (readL (bl bs)).isSome then 0 else 3

theorem ints_nil (k : IntKind) (w : World) : Ints k w (.slice none 0 0) [] := .inl ⟨none, 0, rfl, rfl, by simp, fun _ => rfl⟩

def BOut (xs : List Int) (w : World) (e : Ending) (w' : World) : Prop := Below w.heap.size w w' ∧ ∃ v, e = .returned (.tuple #[v, .int .i64 (bErr xs)]) ∧ Ints .u8 w' v (bOut xs)
def ROut (bs : List Int) (w : World) (e : Ending) (w' : World) : Prop := Below w.heap.size w w' ∧ ∃ v, e = .returned (.tuple #[v, .int .i64 (rErr bs)]) ∧ Ints .i32 w' v (rOut bs)

theorem bytes_out {B : Nat} {xs : List Int} {w w' : World} {e : Ending} (h : BytesPost B xs w e w') : BOut xs w e w' := by
  obtain ⟨hb, ⟨hm, v, n, rfl, hown⟩ | ⟨hm, rfl⟩⟩ := h
  · refine ⟨hb, v, by simp [bErr, hm], ?_⟩
    have := (Ints.of_owns hown).1
    simpa [bOut, hm] using this
  · refine ⟨hb, _, by simp [bErr, hm]; rfl, ?_⟩
    simpa [bOut, hm] using ints_nil .u8 w'
theorem read_out {B : Nat} {bs : List Int} {w w' : World} {e : Ending} (h : ReadPost B bs w e w') : ROut bs w e w' := by
  obtain ⟨hb, ⟨rs, v, n, hm, rfl, hown⟩ | ⟨hm, rfl⟩⟩ := h
  · refine ⟨hb, v, by simp [rErr, hm], ?_⟩
    have := (Ints.of_owns hown).1
    simpa [rOut, hm] using this
  · refine ⟨hb, _, by simp [rErr, hm]; rfl, ?_⟩
    simpa [rOut, hm] using ints_nil .i32 w'
theorem owns_empty (w : World) (e : TypeId) : (w.alloc (.cells #[] e)).ownsRow w.heap.size e 1 (.slice (some ⟨w.heap.size, 0, none⟩) 0 0) 0 [] := owns_built w e #[] (by simp)

set_option maxHeartbeats 4000000 in
set_option maxRecDepth 100000 in
theorem texts_walk (v1 v2 : Value) (xs bs : List Int) (r : Int) (w : World) (hv1 : Ints .i32 w v1 xs) (hv2 : Ints .u8 w v2 bs) (hbb : ∀ b ∈ bs, 0 ≤ b ∧ b < 256) :
    Calls Try.prog 3 #[v1, v2, .int .i32 r] w fun e w' => e = .returned (.bool true) ∧ Below w.heap.size w w' := by
  have l1 := hv1.len
  have l2 := hv2.len
  by_cases hx : 3000 < xs.length
  · obtain ⟨a, cap, rfl⟩ := hv1.shape
    obtain ⟨a2, cap2, rfl⟩ := hv2.shape
    clear hv1 hv2
    go_enter Try.func3, Try.ntmps3
    go_wp2_with (go_at_call 7; refine (known_any _).mono ?_; rintro e w' ⟨rfl, hb⟩)
    go_ret
    exact ⟨rfl, hb⟩
  by_cases hy : 3000 < bs.length
  · obtain ⟨a, cap, rfl⟩ := hv1.shape
    obtain ⟨a2, cap2, rfl⟩ := hv2.shape
    clear hv1 hv2
    go_enter Try.func3, Try.ntmps3
    go_wp2_with (go_at_call 7; refine (known_any _).mono ?_; rintro e w' ⟨rfl, hb⟩)
    go_ret
    exact ⟨rfl, hb⟩
  obtain ⟨i0, hi, hz0, hz1, hz2⟩ := info_parts info21
  obtain ⟨j0, hj, hy0, hy1, hy2⟩ := info_parts info5
  have o1 := owns_empty w 21
  have iv1 := hv1.below ((Below.refl _ _).alloc (Nat.le_refl _) (.cells #[] 21))
  have HV1 := Lib.hid hv1
  have HV2 := Lib.hid hv2
  obtain ⟨a, cap, hva⟩ := hv1.shape
  obtain ⟨a2, cap2, hva2⟩ := hv2.shape
  subst hva
  subst hva2
  have b0 : Below w.heap.size w (w.alloc (.cells #[] 21)) := (Below.refl _ _).alloc (Nat.le_refl _) _
  clear hv1 hv2
  go_enter Try.func3, Try.ntmps3
  go_wp2_with (at_builtin; refine wpList_append_ints rfl (.tmp 26) (.tmp 27) 22 rfl w.heap.size 21 i0 (.int .i32 0) 4 Try.underlying22 hi hz0 hz1 hz2 rfl _ 0 [] rfl o1 _ .i32 xs rfl iv1 (by unfold maxLen; omega) (by omega) (by simp) ?_)
  intro v3 w1 hown1 hg1
  try simp only [Nat.zero_add, List.nil_append] at hown1
  have b1 : Below w.heap.size w w1 := b0.grown hg1 (by simp) (fun k hk => by simp [Value.ownBlock] at hk; omega)
  have inn1 := (Ints.of_owns hown1).1
  have o2 := owns_empty w1 5
  have ba : Below w1.heap.size w1 (w1.alloc (.cells #[] 5)) := (Below.refl _ _).alloc (Nat.le_refl _) _
  have iv2 := (HV2.out.below b1).below ba
  clear o1 iv1 hown1 hg1 b0
  go_wp2_with (at_builtin; refine wpList_append_ints rfl (.tmp 29) (.tmp 30) 23 rfl w1.heap.size 5 j0 (.int .u8 0) 1 Try.underlying23 hj hy0 hy1 hy2 rfl _ 0 [] rfl o2 _ .u8 bs rfl iv2 (by unfold maxLen; omega) (by omega) (by simp) ?_)
  intro v4 w2 hown2 hg2
  try simp only [Nat.zero_add, List.nil_append] at hown2
  have b12 : Below w1.heap.size w1 w2 := ba.grown hg2 (by simp) (fun k hk => by simp [Value.ownBlock] at hk; omega)
  have b2 : Below w.heap.size w w2 := b1.trans (b12.mono b1.size)
  have in1 := inn1.below b12
  have in2 := (Ints.of_owns hown2).1
  clear o2 iv2 hown2 hg2 ba b1 b12 inn1
  go_wp2_with (go_at_call 8; refine ((bytes_any _ _ _ in1 (by omega)).mono (fun _ _ h => bytes_out h)).mono ?_)
  rintro e w3 ⟨b23, x, rfl, ix⟩
  have b3 := b2.trans (b23.mono b2.size)
  have in1' := in1.below b23
  have in2' := in2.below b23
  have il := HV1.out.below b3
  clear b2 b23 in1 in2
  go_wp2_with (go_at_call 9; refine ((rbytes_any _ _ _ il (by omega)).mono (fun _ _ h => bytes_out h)).mono ?_)
  rintro e w4 ⟨b34, y, rfl, iy⟩
  have b4 := b3.trans (b34.mono b3.size)
  have in1 := in1'.below b34
  have in2 := in2'.below b34
  have ix4 := ix.below b34
  clear b3 b34 in1' in2' il ix
  go_wp2_with (go_at_call 10; refine ((read_any _ _ _ in2 (by omega)).mono (fun _ _ h => read_out h)).mono ?_)
  rintro e w5 ⟨b45, u, rfl, iu⟩
  have b5 := b4.trans (b45.mono b4.size)
  have in1' := in1.below b45
  have in2' := in2.below b45
  have ix5 := ix4.below b45
  have iy5 := iy.below b45
  have ib := HV2.out.below b5
  clear b4 b45 in1 in2 ix4 iy
  go_wp2_with (go_at_call 11; refine ((rread_any _ _ _ ib hbb (by omega)).mono (fun _ _ h => read_out h)).mono ?_)
  rintro e w6 ⟨b56, q, rfl, iq⟩
  have b6 := b5.trans (b56.mono b5.size)
  have in1 := in1'.below b56
  have in2 := in2'.below b56
  have iu6 := iu.below b56
  have hc1 := conv_ints _ _ _ (ix5.below b56)
  have hc2 := conv_ints _ _ _ (iy5.below b56)
  have il := HV1.out.below b6
  have ib2 := HV2.out.below b6
  clear b5 b56 in1' in2' iu ix5 iy5 ib
  have hs1 : sameB (rOut bs) (rOut bs) = true := by simp [sameB]
  have hs2 : sameB xs xs = true := by simp [sameB]
  go_wp2_with (go_at_call 12; refine (same_any _ _ _ _ _ iu6 iq).mono ?_)
  rintro e w' ⟨rfl, n1, rfl⟩
  have bd : Below w6.heap.size w6 (w6.drewN n1) := blw_drewN (Below.refl _ _) n1
  have b7 := blw_drewN b6 n1
  have in1' := in1.below bd
  have in2' := in2.below bd
  have il' := il.below bd
  have ib2' := ib2.below bd
  clear bd b6 in1 in2 il ib2 iu6 iq hc1 hc2
  go_wp2_with (first
    | (go_at_call 13; refine (may_any _ _).mono ?_; rintro e w' ⟨rfl, rfl⟩)
    | (go_at_call 14; refine (rmay_any _ _).mono ?_; rintro e w' ⟨rfl, rfl⟩)
    | (go_at_call 15; refine (newlines_any _ _ _ il').mono ?_; rintro e w' ⟨rfl, rfl⟩)
    | (go_at_call 16; refine (rnewlines_any _ _ _ il').mono ?_; rintro e w' ⟨rfl, rfl⟩))
  refine (same_any _ _ _ _ _ in1' il').mono ?_
  rintro e w' ⟨rfl, n2, rfl⟩
  have bd : Below (w6.drewN n1).heap.size (w6.drewN n1) ((w6.drewN n1).drewN n2) := blw_drewN (Below.refl _ _) n2
  have b8 := blw_drewN b7 n2
  have hc3 := conv_ints _ _ _ (in2'.below bd)
  have hc4 := conv_ints _ _ _ (ib2'.below bd)
  rw [World.drewN_drewN] at hc3 hc4 b8
  clear bd b7 in1' in2' il' ib2'
  go_wp2_with (go_at_call 7; refine (known_any _).mono ?_; rintro e w' ⟨rfl, hb⟩)
  go_ret
  exact ⟨rfl, b8.trans (hb.mono b8.size)⟩
end Go.Proofs.Ytkacgfoglfoaiaa
