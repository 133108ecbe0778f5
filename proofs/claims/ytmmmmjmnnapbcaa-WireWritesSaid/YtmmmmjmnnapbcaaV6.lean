import Derived.Test.YtmmmmjmnnapbcaaV5
namespace Go.Proofs.Ytmmmmjmnnapbcaa
open Go.RowKit
set_option linter.unusedVariables false

theorem u_cases {bs : List Int} {p : Int} (hbb : ∀ b ∈ bs, 0 ≤ b ∧ b < 256) :
    (uErr bs p = 0 ∧ Fits (uNum bs p) ∧ uNxt bs p ≤ bs.length) ∨ ((uErr bs p = 5 ∨ uErr bs p = 3) ∧ uNum bs p = 0 ∧ uNxt bs p = 0) := by
  by_cases h : p < 0 ∨ (bs.length : Int) < p
  · have := u_out h
    exact .inr ⟨.inl this.1, this.2.1, this.2.2⟩
  · obtain ⟨q, rfl⟩ : ∃ q : Nat, p = q := ⟨p.toNat, by omega⟩
    have hq : q ≤ bs.length := by omega
    cases hd : dec64 (bs.drop q) with
    | none =>
      have := u_none hq hd
      exact .inr ⟨.inr this.1, this.2.1, this.2.2⟩
    | some ns =>
      obtain ⟨n, s⟩ := ns
      have := u_some hq hd
      have hs := dec64_take _ (bytes_drop q hbb) n s hd
      rw [List.length_drop] at hs
      refine .inl ⟨this.1, ?_, ?_⟩
      · rw [this.2.1]; exact hs.2.2.2.2.1
      · rw [this.2.2]; omega

def IntIs (bs : List Int) (p : Int) (w : World) (e : Ending) (w' : World) : Prop := e = .returned (.tuple #[.int .i64 (zag (uNum bs p)), .int .i64 (uNxt bs p), .int .i64 (uErr bs p)]) ∧ w = w'

set_option maxHeartbeats 1000000 in
set_option maxRecDepth 100000 in
theorem int_any (v : Value) (bs : List Int) (p : Int) (w : World) (hv : Ints .u8 w v bs) (hbb : ∀ b ∈ bs, 0 ≤ b ∧ b < 256) (hl : bs.length ≤ 3000000) :
    Calls Try.prog 18 #[v, .int .i64 p] w (IntIs bs p w) := by
  have U := uint_any v bs p w hv hbb hl
  have hc := u_cases (p := p) hbb
  unfold UintIs at U
  unfold IntIs
  obtain ⟨a, cap, rfl⟩ := hv.shape
  generalize uErr bs p = E at *
  generalize uNum bs p = N at *
  generalize uNxt bs p = X at *
  clear hv hbb
  rcases hc with ⟨rfl, hN, hX⟩ | ⟨hE, rfl, rfl⟩
  · have W := wholeOf_any N w hN
    clear hN
    go_enter Try.func18, Try.ntmps18
    go_wp2_with (go_at_call 16; refine U.mono ?_; rintro e w' ⟨rfl, rfl⟩)
    go_wp2_with (go_at_call 26; refine W.mono ?_; rintro e w' ⟨rfl, rfl⟩)
    go_ret3
    exact ⟨rfl, rfl⟩
  · have hE0 : (E == 0) = false := by rw [beq_eq_false_iff_ne]; omega
    have hE1 : (E != 0) = true := by rw [bne_iff_ne]; omega
    clear hE
    have hz : zag 0 = 0 := rfl
    rw [hz]
    clear hz
    go_enter Try.func18, Try.ntmps18
    go_wp2_with (go_at_call 16; refine U.mono ?_; rintro e w' ⟨rfl, rfl⟩)
    go_ret3
    exact ⟨rfl, rfl⟩

def bErr (bs : List Int) (p m : Int) : Int := if uErr bs p = 0 then if m < 0 ∨ m < uNum bs p ∨ (bs.length : Int) - uNxt bs p < uNum bs p then 3 else 0 else uErr bs p
def bNxt (bs : List Int) (p m : Int) : Nat := if bErr bs p m = 0 then uNxt bs p + uNum bs p else 0
def bOut (bs : List Int) (p m : Int) : List Int := if bErr bs p m = 0 then (bs.take (uNxt bs p + uNum bs p)).drop (uNxt bs p) else []

theorem u_bad {bs : List Int} {p m : Int} (h : uErr bs p = 5 ∨ uErr bs p = 3) : bErr bs p m = uErr bs p := by
  unfold bErr
  rw [if_neg (by omega)]
def BytesIs (bs : List Int) (p m : Int) (w : World) (e : Ending) (w' : World) : Prop :=
  ∃ v, e = .returned (.tuple #[v, .int .i64 (bNxt bs p m), .int .i64 (bErr bs p m)]) ∧ w'.ownsRow w.heap.size 5 1 v (bOut bs p m).length ((bOut bs p m).map (Value.int .u8)) ∧ Below w.heap.size w w'

theorem bytes_bad {bs : List Int} {p m : Int} {w w' : World} {E : Int} (hE : E ≠ 0) (h : bErr bs p m = E) (hb : Below w.heap.size w w') : BytesIs bs p m w (.returned (.tuple #[.slice none 0 0, .int .i64 0, .int .i64 E])) w' := by
  unfold BytesIs bNxt bOut
  rw [h, if_neg hE, if_neg hE]
  exact ⟨_, rfl, World.ownsRow_nil _ _ _ _, hb⟩

set_option maxHeartbeats 1000000 in
set_option maxRecDepth 100000 in
theorem bytes_any (v : Value) (bs : List Int) (p m : Int) (w : World) (hv : Ints .u8 w v bs) (hbb : ∀ b ∈ bs, 0 ≤ b ∧ b < 256) (hl : bs.length ≤ 1000000) (hm63 : m ≤ 9223372036854775807) :
    Calls Try.prog 20 #[v, .int .i64 p, .int .i64 m] w (BytesIs bs p m w) := by
  have U := uint_any v bs p w hv hbb (by omega)
  have hc := u_cases (p := p) hbb
  have HV := Lib.hid hv
  obtain ⟨a, cap, rfl⟩ := hv.shape
  clear hv hbb
  unfold UintIs at U
  rcases hc with ⟨hE, hN, hX⟩ | ⟨hE, hN, hX⟩
  · rw [hE] at U
    by_cases hbad : m < 0 ∨ m < uNum bs p ∨ (bs.length : Int) - uNxt bs p < uNum bs p
    · have HB : Hid (∀ w', Below w.heap.size w w' → BytesIs bs p m w (.returned (.tuple #[.slice none 0 0, .int .i64 0, .int .i64 3])) w') := fun w' hb =>
        bytes_bad (by omega) (by unfold bErr; rw [if_pos hE, if_pos hbad]) hb
      generalize uNum bs p = N at *
      generalize uNxt bs p = X at *
      clear hE hN
      have hm0 := hbad
      by_cases h0 : m < 0
      · clear hbad hm0
        go_enter Try.func20, Try.ntmps20
        go_wp2_with (go_at_call 16; refine U.mono ?_; rintro e w' ⟨rfl, rfl⟩)
        go_ret3
        exact HB.out _ (Below.refl _ _)
      by_cases h1 : m < N
      · clear hbad hm0
        go_enter Try.func20, Try.ntmps20
        go_wp2_with (go_at_call 16; refine U.mono ?_; rintro e w' ⟨rfl, rfl⟩)
        go_ret3
        exact HB.out _ (Below.refl _ _)
      have h2 : (bs.length : Int) - X < N := by omega
      clear hbad hm0
      go_enter Try.func20, Try.ntmps20
      go_wp2_with (go_at_call 16; refine U.mono ?_; rintro e w' ⟨rfl, rfl⟩)
      go_ret3
      exact HB.out _ (Below.refl _ _)
    · have hz : bErr bs p m = 0 := by unfold bErr; rw [if_pos hE, if_neg hbad]
      unfold BytesIs bNxt bOut
      rw [hz, if_pos rfl, if_pos rfl]
      clear hz hE hN
      generalize uNum bs p = N at *
      generalize uNxt bs p = X at *
      have hM := Ints.mid (lo := X) (hi := X + N) HV.out (by omega) (by omega)
      rw [Nat.add_sub_cancel_left] at hM
      have hol : ((bs.take (X + N)).drop X).length ≤ 1000000 := by rw [List.length_drop, List.length_take]; omega
      generalize (bs.take (X + N)).drop X = os at *
      have h0 : ¬ m < 0 := by omega
      have h1 : ¬ m < N := by omega
      have h2 : ¬ (bs.length : Int) - X < N := by omega
      have hcl : (bs.length : Int) ≤ cap := by
        rcases HV.out with ⟨a', cap', hv', hx, hm, hn⟩ | ⟨b, off, cap', hv', _, hc, hm, _⟩
        · subst hx; simp
        · injection hv' with e1 e2 e3; omega
      clear hbad
      by_cases hcq : cap = X
      · have C := copied_any _ os 0 w (hM.1 hcq) hol (by omega) (by omega)
        subst hcq
        clear hM
        go_enter Try.func20, Try.ntmps20
        go_wp2_with (go_at_call 16; refine U.mono ?_; rintro e w' ⟨rfl, rfl⟩)
        go_wp2_with (go_at_call 23; refine C.mono ?_)
        rintro e w1 ⟨v1, rfl, hown, hb⟩
        go_wp2
        go_ret3
        exact ⟨v1, rfl, hown, hb⟩
      · have C := copied_any _ os 0 w (hM.2 hcq) hol (by omega) (by omega)
        clear hM
        go_enter Try.func20, Try.ntmps20
        go_wp2_with (go_at_call 16; refine U.mono ?_; rintro e w' ⟨rfl, rfl⟩)
        go_wp2_with (go_at_call 23; refine C.mono ?_)
        rintro e w1 ⟨v1, rfl, hown, hb⟩
        go_wp2
        go_ret3
        exact ⟨v1, rfl, hown, hb⟩
  · have hE0 : (uErr bs p == 0) = false := by rw [beq_eq_false_iff_ne]; omega
    have hE1 : (uErr bs p != 0) = true := by rw [bne_iff_ne]; omega
    have HB : Hid (∀ w', Below w.heap.size w w' → BytesIs bs p m w (.returned (.tuple #[.slice none 0 0, .int .i64 0, .int .i64 (uErr bs p)])) w') := fun w' hb =>
      bytes_bad (by omega) (u_bad hE) hb
    rw [hN, hX] at U
    generalize uErr bs p = E at *
    clear hE hN hX
    go_enter Try.func20, Try.ntmps20
    go_wp2_with (go_at_call 16; refine U.mono ?_; rintro e w' ⟨rfl, rfl⟩)
    go_ret3
    exact HB.out _ (Below.refl _ _)
end Go.Proofs.Ytmmmmjmnnapbcaa
