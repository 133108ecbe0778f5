import Derived.Test.YtmmmmjmnnapbcaaV4
namespace Go.Proofs.Ytmmmmjmnnapbcaa
open Go.RowKit
set_option linter.unusedVariables false

def uErr (bs : List Int) (p : Int) : Int := if p < 0 ∨ (bs.length : Int) < p then 5 else if dec64 (bs.drop p.toNat) = none then 3 else 0
def uNum (bs : List Int) (p : Int) : Nat := if p < 0 ∨ (bs.length : Int) < p then 0 else numOf (bs.drop p.toNat)
def uNxt (bs : List Int) (p : Int) : Nat := if p < 0 ∨ (bs.length : Int) < p then 0 else if dec64 (bs.drop p.toNat) = none then 0 else p.toNat + sizeOf64 (bs.drop p.toNat)

theorem u_out {bs : List Int} {p : Int} (h : p < 0 ∨ (bs.length : Int) < p) : uErr bs p = 5 ∧ uNum bs p = 0 ∧ uNxt bs p = 0 := by simp [uErr, uNum, uNxt, h]
theorem u_none {bs : List Int} {p : Nat} (h : p ≤ bs.length) (hd : dec64 (bs.drop p) = none) : uErr bs p = 3 ∧ uNum bs p = 0 ∧ uNxt bs p = 0 := by
  have h1 : ¬ ((p : Int) < 0 ∨ (bs.length : Int) < p) := by omega
  unfold uErr uNum uNxt
  rw [if_neg h1, if_neg h1, if_neg h1, Int.toNat_natCast, if_pos hd, if_pos hd, (first_none hd).1]
  exact ⟨rfl, rfl, rfl⟩
theorem u_some {bs : List Int} {p n s : Nat} (h : p ≤ bs.length) (hd : dec64 (bs.drop p) = some (n, s)) : uErr bs p = 0 ∧ uNum bs p = n ∧ uNxt bs p = p + s := by
  have h1 : ¬ ((p : Int) < 0 ∨ (bs.length : Int) < p) := by omega
  have h2 : ¬ dec64 (bs.drop p) = none := by rw [hd]; simp
  unfold uErr uNum uNxt
  rw [if_neg h1, if_neg h1, if_neg h1, Int.toNat_natCast, if_neg h2, if_neg h2, (first_some hd).1, (first_some hd).2]
  exact ⟨rfl, rfl, rfl⟩
theorem bytes_drop {bs : List Int} (p : Nat) (hbb : ∀ b ∈ bs, 0 ≤ b ∧ b < 256) : ∀ b ∈ bs.drop p, 0 ≤ b ∧ b < 256 := fun b hb => hbb b (List.mem_of_mem_drop hb)

def UintIs (bs : List Int) (p : Int) (w : World) (e : Ending) (w' : World) : Prop := e = .returned (.tuple #[.int .u64 (uNum bs p), .int .i64 (uNxt bs p), .int .i64 (uErr bs p)]) ∧ w = w'

theorem uintIs {bs : List Int} {p : Int} {w : World} {n x : Nat} {e : Int} (h : uErr bs p = e ∧ uNum bs p = n ∧ uNxt bs p = x) : UintIs bs p w (.returned (.tuple #[.int .u64 n, .int .i64 x, .int .i64 e])) w := by
  unfold UintIs
  rw [h.1, h.2.1, h.2.2]
  exact ⟨rfl, rfl⟩

set_option maxHeartbeats 1000000 in
set_option maxRecDepth 100000 in
theorem uint_any (v : Value) (bs : List Int) (p : Int) (w : World) (hv : Ints .u8 w v bs) (hbb : ∀ b ∈ bs, 0 ≤ b ∧ b < 256) (hl : bs.length ≤ 3000000) :
    Calls Try.prog 16 #[v, .int .i64 p] w (UintIs bs p w) := by
  have HV := Lib.hid hv
  obtain ⟨a, cap, rfl⟩ := hv.shape
  clear hv
  by_cases h0 : p < 0
  · have HU := Lib.hid (uintIs (w := w) (u_out (bs := bs) (.inl h0)))
    go_enter Try.func16, Try.ntmps16
    go_wp2
    go_ret3
    exact HU.out
  by_cases h1 : (bs.length : Int) < p
  · have HU := Lib.hid (uintIs (w := w) (u_out (bs := bs) (.inr h1)))
    go_enter Try.func16, Try.ntmps16
    go_wp2
    go_ret3
    exact HU.out
  obtain ⟨q, rfl⟩ : ∃ q : Nat, p = q := ⟨p.toNat, by omega⟩
  have hq : q ≤ bs.length := by omega
  have hT := Ints.tail HV.out hq
  have hb := bytes_drop q hbb
  clear h0 h1
  by_cases hcq : cap = q
  all_goals
    first
      | (have F := first_any _ _ w (hT.1 hcq) hb)
      | (have F := first_any _ _ w (hT.2 hcq) hb)
    have HBB := Lib.hid hbb
    clear hT hb hbb
    have hcl : (q : Int) ≤ cap := by
      obtain ⟨_, _, hh⟩ := HV.out.shape
      rcases HV.out with ⟨a', cap', hv', hx, hm, hn⟩ | ⟨b, off, cap', hv', _, hc, hm, _⟩
      · subst hx; simp at hq; omega
      · injection hv' with e1 e2 e3; omega
    cases hd : dec64 (bs.drop q) with
    | none =>
      have HU := Lib.hid (uintIs (w := w) (u_none hq hd))
      rw [(first_none hd).1, (first_none hd).2] at F
      clear hd
      go_enter Try.func16, Try.ntmps16
      go_wp2_with (go_at_call 25; refine F.mono ?_; rintro e w' ⟨rfl, rfl⟩)
      go_ret3
      exact HU.out
    | some ns =>
      obtain ⟨n, s⟩ := ns
      have hs := dec64_take _ (bytes_drop q HBB.out) n s hd
      have hsl : s ≤ 10 := hs.2.2.2.2.2
      have hs1 : ((s : Int) == 0) = false := by rw [beq_eq_false_iff_ne]; omega
      clear hs
      have HU := Lib.hid (uintIs (w := w) (u_some hq hd))
      rw [(first_some hd).1, (first_some hd).2] at F
      clear hd
      go_enter Try.func16, Try.ntmps16
      go_wp2_with (go_at_call 25; refine F.mono ?_; rintro e w' ⟨rfl, rfl⟩)
      go_ret3
      exact HU.out
end Go.Proofs.Ytmmmmjmnnapbcaa
