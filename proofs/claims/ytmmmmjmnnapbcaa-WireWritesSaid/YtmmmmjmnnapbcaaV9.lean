import Derived.Test.YtmmmmjmnnapbcaaV8
import Derived.Lib.SlBytesConst
namespace Go.Proofs.Ytmmmmjmnnapbcaa
open Go.RowKit
set_option linter.unusedVariables false

def Told (n x : Nat) (E : Int) (w : World) (e : Ending) (w' : World) : Prop := e = .returned (.tuple #[.int .u64 n, .int .i64 x, .int .i64 E]) ∧ Below w.heap.size w w'

set_option maxHeartbeats 2000000 in
set_option maxRecDepth 100000 in
theorem rbytes_any (v : Value) (bs : List Int) (p m : Int) (w : World) (hv : Ints .u8 w v bs) (hbb : ∀ b ∈ bs, 0 ≤ b ∧ b < 256) (hl : bs.length ≤ 1000000) (hm63 : m ≤ 9223372036854775807) :
    Calls Try.prog 21 #[v, .int .i64 p, .int .i64 m] w (BytesIs bs p m w) := by
  obtain ⟨i0, hi, hz0, hz1, hz2⟩ := info_parts info8
  have U : Calls Try.prog 17 #[v, .int .i64 p] w (Told (uNum bs p) (uNxt bs p) (uErr bs p) w) := ruint_any v bs p w hv hbb (by omega)
  have hc := u_cases (p := p) hbb
  have HV := Lib.hid hv
  obtain ⟨a, cap, rfl⟩ := hv.shape
  clear hv hbb
  rcases hc with ⟨hE, hN, hX⟩ | ⟨hE, hN, hX⟩
  · rw [hE] at U
    by_cases hbad : m < 0 ∨ m < uNum bs p ∨ (bs.length : Int) - uNxt bs p < uNum bs p
    · have HB : Hid (∀ w', Below w.heap.size w w' → BytesIs bs p m w (.returned (.tuple #[.slice none 0 0, .int .i64 0, .int .i64 3])) w') := fun w' hb =>
        bytes_bad (by omega) (by unfold bErr; rw [if_pos hE, if_pos hbad]) hb
      generalize uNum bs p = N at *
      generalize uNxt bs p = X at *
      clear hE hN
      have hm0 := hbad
      by_cases h0 : m < 0
      · clear hbad hm0
        go_enter Try.func21, Try.ntmps21
        go_wp2_with (go_at_call 17; refine U.mono ?_)
        rintro e w1 ⟨rfl, hb⟩
        go_wp2
        go_ret3
        exact HB.out _ hb
      by_cases h1 : m < N
      · clear hbad hm0
        go_enter Try.func21, Try.ntmps21
        go_wp2_with (go_at_call 17; refine U.mono ?_)
        rintro e w1 ⟨rfl, hb⟩
        go_wp2
        go_ret3
        exact HB.out _ hb
      have h2 : (bs.length : Int) - X < N := by omega
      clear hbad hm0
      go_enter Try.func21, Try.ntmps21
      go_wp2_with (go_at_call 17; refine U.mono ?_)
      rintro e w1 ⟨rfl, hb⟩
      go_wp2
      go_ret3
      exact HB.out _ hb
    · have hz : bErr bs p m = 0 := by unfold bErr; rw [if_pos hE, if_neg hbad]
      unfold BytesIs bNxt bOut
      rw [hz, if_pos rfl, if_pos rfl]
      clear hz hE hN
      generalize uNum bs p = N at *
      generalize uNxt bs p = X at *
      have hM := Ints.mid (lo := X) (hi := X + N) HV.out (by omega) (by omega)
      have hol : ((bs.take (X + N)).drop X).length ≤ 1000000 := by rw [List.length_drop, List.length_take]; omega
      generalize (bs.take (X + N)).drop X = os at *
      have h0 : ¬ m < 0 := by omega
      have h1 : ¬ m < N := by omega
      have h2 : ¬ (bs.length : Int) - X < N := by omega
      have hcl : (bs.length : Int) ≤ cap := by
        rcases HV.out with ⟨a', cap', hv', hx, hm, hn⟩ | ⟨b, off, cap', hv', _, hc, hm, _⟩
        · subst hx; simp
        · injection hv' with e1 e2 e3; omega
      clear hbad
      by_cases hcq : cap = X
      · have C := Lib.hid (hM.1 hcq)
        subst hcq
        clear hM
        go_enter Try.func21, Try.ntmps21
        go_wp2_with (go_at_call 17; refine U.mono ?_)
        rintro e w1 ⟨rfl, hb⟩
        have o1 := owns_empty w1 5
        have ba : Below w1.heap.size w1 (w1.alloc (.cells #[] 5)) := (Below.refl _ _).alloc (Nat.le_refl _) _
        have iv := (C.out.below hb).below ba
        go_wp2_with (at_builtin; refine wpList_append_ints rfl (.tmp 39) (.tmp 46) 22 rfl w1.heap.size 5 i0 (.int .u8 0) 1 Try.underlying22 hi hz0 hz1 hz2 rfl _ 0 [] rfl o1 _ .u8 os rfl iv (by unfold maxLen; omega) (by omega) (by simp) ?_)
        intro v3 w3 hown3 hg3
        have hown4 : w3.ownsRow w.heap.size 5 1 v3 os.length (os.map (Value.int .u8)) := by simpa using owns_mono hown3 hb.size
        have hb3 : Below w.heap.size w w3 := (hb.alloc hb.size _).grown hg3 (by have := hb.size; simp; omega) (fun k hk => by simp [Value.ownBlock] at hk; have := hb.size; omega)
        clear hown3 hg3 iv o1 ba
        go_wp2
        go_ret3
        exact ⟨v3, rfl, hown4, hb3⟩
      · have C := Lib.hid (hM.2 hcq)
        clear hM
        go_enter Try.func21, Try.ntmps21
        go_wp2_with (go_at_call 17; refine U.mono ?_)
        rintro e w1 ⟨rfl, hb⟩
        have o1 := owns_empty w1 5
        have ba : Below w1.heap.size w1 (w1.alloc (.cells #[] 5)) := (Below.refl _ _).alloc (Nat.le_refl _) _
        have iv := (C.out.below hb).below ba
        go_wp2_with (at_builtin; refine wpList_append_ints rfl (.tmp 39) (.tmp 46) 22 rfl w1.heap.size 5 i0 (.int .u8 0) 1 Try.underlying22 hi hz0 hz1 hz2 rfl _ 0 [] rfl o1 _ .u8 os rfl iv (by unfold maxLen; omega) (by omega) (by simp) ?_)
        intro v3 w3 hown3 hg3
        have hown4 : w3.ownsRow w.heap.size 5 1 v3 os.length (os.map (Value.int .u8)) := by simpa using owns_mono hown3 hb.size
        have hb3 : Below w.heap.size w w3 := (hb.alloc hb.size _).grown hg3 (by have := hb.size; simp; omega) (fun k hk => by simp [Value.ownBlock] at hk; have := hb.size; omega)
        clear hown3 hg3 iv o1 ba
        go_wp2
        go_ret3
        exact ⟨v3, rfl, hown4, hb3⟩
  · have hE0 : (uErr bs p == 0) = false := by rw [beq_eq_false_iff_ne]; omega
    have hE1 : (uErr bs p != 0) = true := by rw [bne_iff_ne]; omega
    have HB : Hid (∀ w', Below w.heap.size w w' → BytesIs bs p m w (.returned (.tuple #[.slice none 0 0, .int .i64 0, .int .i64 (uErr bs p)])) w') := fun w' hb =>
      bytes_bad (by omega) (u_bad hE) hb
    rw [hN, hX] at U
    generalize uErr bs p = E at *
    clear hE hN hX
    go_enter Try.func21, Try.ntmps21
    go_wp2_with (go_at_call 17; refine U.mono ?_)
    rintro e w1 ⟨rfl, hb⟩
    go_wp2
    go_ret3
    exact HB.out _ hb

theorem form300 : form 300 = [172, 2] := by
  rw [form_big 300 (by omega), form_small (300 / 128) (by omega)]; rfl
theorem k1 : uNum [172, 2] 0 = 300 ∧ uNxt [172, 2] 0 = 2 ∧ uErr [172, 2] 0 = 0 := by decide
theorem k2 : uNum [128, 0] 0 = 0 ∧ uNxt [128, 0] 0 = 0 ∧ uErr [128, 0] 0 = 3 := by decide
theorem k3 : bOut [2, 97, 98, 99] 0 2 = [97, 98] ∧ bNxt [2, 97, 98, 99] 0 2 = 3 ∧ bErr [2, 97, 98, 99] 0 2 = 0 := by decide

set_option maxHeartbeats 4000000 in
set_option maxRecDepth 100000 in
theorem known_any (w : World) :
    Calls Try.prog 9 #[] w fun e w' => e = .returned (.bool true) ∧ Below w.heap.size w w' := by
  have i1 : Ints .u8 (w.alloc (.cells #[.int .u8 172, .int .u8 2] 5)) (.slice (some ⟨w.heap.size, 0, none⟩) 2 2) [172, 2] := ints_built .u8 w 5 [172, 2] (by simp [maxLen])
  have U1 := uint_any _ _ 0 _ i1 (by decide) (by decide)
  have b1 : Below w.heap.size w (w.alloc (.cells #[.int .u8 172, .int .u8 2] 5)) := (Below.refl _ _).alloc (Nat.le_refl _) _
  unfold UintIs at U1
  rw [k1.1, k1.2.1, k1.2.2] at U1
  have kc := fun (w : World) (C : Array Value) (n c : Nat) => Lib.run_convert_bytes_const (P := Try.prog) w 22 5 C n c Try.underlying22 Try.underlying5
  clear i1
  go_enter Try.func9, Try.ntmps9
  go_wp2_with (go_at_call 16; refine U1.mono ?_)
  rintro e w1 ⟨rfl, rfl⟩
  clear U1
  generalize w.alloc (.cells #[.int .u8 172, .int .u8 2] 5) = w1 at *
  have i1 : Ints .u8 (w1.alloc (.cells #[.int .u8 128, .int .u8 0] 5)) (.slice (some ⟨w1.heap.size, 0, none⟩) 2 2) [128, 0] := ints_built .u8 w1 5 [128, 0] (by simp [maxLen])
  have U2 := uint_any _ _ 0 _ i1 (by decide) (by decide)
  have b2 := b1.alloc (by have := b1.size; omega) (.cells #[.int .u8 128, .int .u8 0] 5)
  unfold UintIs at U2
  rw [k2.1, k2.2.1, k2.2.2] at U2
  clear i1
  go_wp2_with (go_at_call 16; refine U2.mono ?_)
  rintro e w2 ⟨rfl, rfl⟩
  clear U2
  generalize w1.alloc (.cells #[.int .u8 128, .int .u8 0] 5) = w2 at *
  have b3 := b2.alloc (by have := b2.size; omega) (.cells #[.int .u8 2, .int .u8 97, .int .u8 98, .int .u8 99] 5 (4, 5))
  have i1 : Ints .u8 (w2.alloc (.cells #[.int .u8 2, .int .u8 97, .int .u8 98, .int .u8 99] 5 (4, 5))) (.slice (some ⟨w2.heap.size, 0, none⟩) 4 4) [2, 97, 98, 99] := ints_marked .u8 w2 5 [2, 97, 98, 99] (by simp [maxLen]) (4, 5)
  have B3 := bytes_any _ _ 0 2 _ i1 (by decide) (by decide) (by decide)
  clear i1
  go_wp2_with (go_at_call 20; refine B3.mono ?_)
  rintro e w4 ⟨v4, rfl, hown4, hb4⟩
  have b4 := b3.trans (hb4.mono b3.size)
  rw [k3.1] at hown4
  rw [k3.2.1, k3.2.2]
  have I4 := (Ints.of_owns hown4).1
  clear hown4 hb4 B3
  go_wp2_with (go_at_call 10; refine (appendUint_any _ [] 300 _ (ints_nil .u8 w4) (by simp) (by unfold Fits; omega)).mono ?_)
  rintro e w5 ⟨v5, rfl, hown5, hb5⟩
  have b5 := b4.trans (hb5.mono b4.size)
  rw [List.nil_append, form300] at hown5
  have hc5 := conv_str (P := Try.prog) 22 9 5 Try.underlying22 Try.underlying5 Try.underlying9 _ _ _ (Ints.of_owns hown5).1
  have es5 : strOfNums [172, 2] = ⟨#[172, 2]⟩ := rfl
  rw [es5] at hc5
  have I5 := I4.below hb5
  clear hown5 hb5 I4
  go_wp2_with (go_at_call 11; refine (appendInt_any _ [] (-1) _ (ints_nil .u8 w5) (by simp) (by omega) (by omega)).mono ?_)
  rintro e w6 ⟨v6, rfl, hown6, hb6⟩
  have b6 := b5.trans (hb6.mono b5.size)
  have ez : form (zig (-1)) = [1] := form_small 1 (by omega)
  rw [List.nil_append, ez] at hown6
  have hc6 := conv_str (P := Try.prog) 22 9 5 Try.underlying22 Try.underlying5 Try.underlying9 _ _ _ (Ints.of_owns hown6).1
  have hc4 := conv_str (P := Try.prog) 22 9 5 Try.underlying22 Try.underlying5 Try.underlying9 _ _ _ (I5.below hb6)
  have es6 : strOfNums [1] = ⟨#[1]⟩ := rfl
  have es4 : strOfNums [97, 98] = ⟨#[97, 98]⟩ := rfl
  rw [es6] at hc6
  rw [es4] at hc4
  clear hown6 hb6 I5 ez es4 es5 es6 hc5
  go_wp2
  go_ret
  exact ⟨rfl, b6⟩
end Go.Proofs.Ytmmmmjmnnapbcaa
