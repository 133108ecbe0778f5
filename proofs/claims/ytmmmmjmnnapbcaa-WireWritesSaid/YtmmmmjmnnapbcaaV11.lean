import Derived.Test.YtmmmmjmnnapbcaaV10
namespace Go.Proofs.Ytmmmmjmnnapbcaa
open Go.RowKit
set_option linter.unusedVariables false

theorem u_form (pre rest : List Int) (n : Nat) (hn : Fits n) : uErr (pre ++ (form n ++ rest)) pre.length = 0 ∧ uNum (pre ++ (form n ++ rest)) pre.length = n ∧ uNxt (pre ++ (form n ++ rest)) pre.length = pre.length + (form n).length := by
  refine u_some (by simp) ?_
  rw [List.drop_left]
  exact dec64_form n rest hn
theorem b_form (pre xs rest : List Int) (m : Int) (hx : Fits xs.length) :
    (m < xs.length → bErr (pre ++ (form xs.length ++ (xs ++ rest))) pre.length m = 3 ∧ bNxt (pre ++ (form xs.length ++ (xs ++ rest))) pre.length m = 0 ∧ bOut (pre ++ (form xs.length ++ (xs ++ rest))) pre.length m = []) ∧
    ((xs.length : Int) ≤ m → bErr (pre ++ (form xs.length ++ (xs ++ rest))) pre.length m = 0 ∧ bNxt (pre ++ (form xs.length ++ (xs ++ rest))) pre.length m = pre.length + (form xs.length).length + xs.length ∧ bOut (pre ++ (form xs.length ++ (xs ++ rest))) pre.length m = xs) := by
  obtain ⟨h1, h2, h3⟩ := u_form pre (xs ++ rest) xs.length hx
  refine ⟨fun hm => ?_, fun hm => ?_⟩
  · have hE : bErr (pre ++ (form xs.length ++ (xs ++ rest))) pre.length m = 3 := by
      unfold bErr
      rw [h1, h2, h3, if_pos rfl, if_pos (by omega)]
    unfold bNxt bOut
    rw [hE]
    exact ⟨rfl, rfl, rfl⟩
  · have hE : bErr (pre ++ (form xs.length ++ (xs ++ rest))) pre.length m = 0 := by
      unfold bErr
      rw [h1, h2, h3, if_pos rfl, if_neg]
      simp
      omega
    unfold bNxt bOut
    rw [hE, if_pos rfl, if_pos rfl, h2, h3]
    refine ⟨rfl, rfl, ?_⟩
    have e : pre ++ (form xs.length ++ (xs ++ rest)) = (pre ++ form xs.length) ++ (xs ++ rest) := by simp
    have e2 : pre.length + (form xs.length).length = (pre ++ form xs.length).length := by simp
    rw [e, e2, List.take_length_add_append, List.take_left, List.drop_left]
theorem form_app_bytes {xs : List Int} (n : Nat) (hb : ∀ b ∈ xs, 0 ≤ b ∧ b < 256) : ∀ b ∈ form n ++ xs, 0 ≤ b ∧ b < 256 := by
  intro b h
  rcases List.mem_append.1 h with h | h
  · exact form_bytes n b h
  · exact hb b h

def BytesSaid (bs : List Int) (N : Nat) (E : Int) (w : World) (e : Ending) (w' : World) : Prop :=
  ∃ a cap, e = .returned (.tuple #[.slice a bs.length cap, .int .i64 N, .int .i64 E]) ∧ Ints .u8 w' (.slice a bs.length cap) bs ∧ Below w.heap.size w w'
theorem bytes_said {bs os : List Int} {p m E : Int} {N : Nat} {w w' : World} {e : Ending} (h : BytesIs bs p m w e w') (h1 : bErr bs p m = E ∧ bNxt bs p m = N ∧ bOut bs p m = os) : BytesSaid os N E w e w' := by
  obtain ⟨v, he, hown, hb⟩ := h
  rw [h1.1, h1.2.1] at he
  rw [h1.2.2] at hown
  have hi := (Ints.of_owns hown).1
  obtain ⟨a, cap, rfl⟩ := hi.shape
  exact ⟨a, cap, he, hi, hb⟩

set_option maxHeartbeats 4000000 in
set_option maxRecDepth 100000 in
theorem most_walk (v : Value) (xs : List Int) (m : Int) (w : World) (hv : Ints .u8 w v xs) (hbb : ∀ b ∈ xs, 0 ≤ b ∧ b < 256) (hm63 : m ≤ 9223372036854775807) :
    Calls Try.prog 8 #[v, .int .i64 m] w fun e w' => e = .returned (.bool true) ∧ Below w.heap.size w w' := by
  have HV := Lib.hid hv
  have l1 := hv.len
  obtain ⟨a, cap, rfl⟩ := hv.shape
  clear hv
  by_cases hx : 2000 < xs.length
  · clear HV
    go_enter Try.func8, Try.ntmps8
    go_wp2_with (go_at_call 9; refine (known_any _).mono ?_; rintro e w' ⟨rfl, hb⟩)
    go_ret
    exact ⟨rfl, hb⟩
  have C1 := appendBytes_any _ _ [] xs w (ints_nil .u8 w) HV.out (by simp) (by omega)
  have H10 := form_ten xs.length (by omega)
  have hl1 : (form xs.length ++ xs).length ≤ 2010 := by simp; omega
  have hlT : (form xs.length).length + xs.length = (form xs.length ++ xs).length := by simp
  have HB := form_app_bytes xs.length hbb
  have HF := b_form [] xs [] m (show _ < _ by omega)
  simp only [List.nil_append, List.append_nil, List.length_nil, Nat.zero_add, Int.natCast_zero] at HF C1
  rw [hlT] at HF
  clear hlT H10
  generalize form xs.length ++ xs = bs at *
  by_cases hm : m < xs.length
  · have HF2 := Lib.hid (HF.1 hm)
    have hge : decide ((xs.length : Int) ≤ m) = false := by rw [decide_eq_false_iff_not]; omega
    have HBB := Lib.hid HB
    clear HF HB hbb
    go_enter Try.func8, Try.ntmps8
    go_wp2_with (go_at_call 12; refine C1.mono ?_)
    rintro e w1 ⟨v1, rfl, hown, hb1⟩
    have i1 := (Ints.of_owns hown).1
    obtain ⟨a1, cap1, rfl⟩ := i1.shape
    have C3 := (bytes_any _ _ 0 m w1 i1 HBB.out (by omega) hm63).mono fun _ _ h => bytes_said h HF2.out
    clear hown i1
    go_wp2_with (go_at_call 20; refine C3.mono ?_)
    rintro e w2 ⟨a2, cap2, rfl, i2, hb2⟩
    have b2 := hb1.trans (hb2.mono hb1.size)
    clear C3 i2
    go_wp2_with (go_at_call 9; refine (known_any _).mono ?_; rintro e w' ⟨rfl, hb⟩)
    go_ret
    exact ⟨rfl, b2.trans (hb.mono b2.size)⟩
  · have HF2 := Lib.hid (HF.2 (by omega))
    have hge : decide ((xs.length : Int) ≤ m) = true := by rw [decide_eq_true_iff]; omega
    have HBB := Lib.hid HB
    clear HF HB hbb
    go_enter Try.func8, Try.ntmps8
    go_wp2_with (go_at_call 12; refine C1.mono ?_)
    rintro e w1 ⟨v1, rfl, hown, hb1⟩
    have i1 := (Ints.of_owns hown).1
    obtain ⟨a1, cap1, rfl⟩ := i1.shape
    have C3 := (bytes_any _ _ 0 m w1 i1 HBB.out (by omega) hm63).mono fun _ _ h => bytes_said h HF2.out
    have i0 := HV.out.below hb1
    clear hown i1
    go_wp2_with (go_at_call 20; refine C3.mono ?_)
    rintro e w2 ⟨a2, cap2, rfl, i2, hb2⟩
    have b2 := hb1.trans (hb2.mono hb1.size)
    have hc1 := conv_str (P := Try.prog) 22 9 5 Try.underlying22 Try.underlying5 Try.underlying9 _ _ _ i2
    have hc2 := conv_str (P := Try.prog) 22 9 5 Try.underlying22 Try.underlying5 Try.underlying9 _ _ _ (i0.below hb2)
    clear C3 i2 i0
    generalize strOfNums xs = sx at *
    go_wp2_with (go_at_call 9; refine (known_any _).mono ?_; rintro e w' ⟨rfl, hb⟩)
    go_ret
    exact ⟨rfl, b2.trans (hb.mono b2.size)⟩
end Go.Proofs.Ytmmmmjmnnapbcaa
