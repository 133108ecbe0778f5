
import Derived.Test.YteilhjkkgdgbkaaNDS
import Derived.Test.YteilhjkkgdgbkaaND6
/- NE: known -/
namespace Go.Proofs.Yteilhjkkgdgbkaa
open Go.RowKit
set_option linter.unusedVariables false

section
variable {B ab n : Nat} {A : ArS ByteArray} {w : World}
theorem takeW (x : ByteArray) (h : Ar_S B (fun k => B ≤ k) ab A n w) (hn : n ≤ 1000000) {i : Nat} (hi : A.fresh = i) :
    Calls Try.prog 22 #[.pointer (some ⟨ab, 0, none⟩), .string x] w fun e w' => e = .returned (.int .i64 (i : Nat)) ∧ Ar_S B (fun k => B ≤ k) ab (A.take x) (n + 1) w' ∧ Below B w w' := by
  have hB := h.hB
  refine (take_S x h hn).mono fun e w' ⟨q1, q2, q3⟩ => ⟨by rw [q1, hi], q2.mono (fun k hk => by rcases hk with hk | hk; exact hk; show B ≤ k; omega) (fun k hk => hk), q3.below (fun k hk => hk) hB⟩
theorem freeW {k : Nat} {x : ByteArray} (h : Ar_S B (fun k => B ≤ k) ab A n w) (hn : n ≤ 1000000) (hx : A.at_ k = some x) :
    Calls Try.prog 23 #[.pointer (some ⟨ab, 0, none⟩), .int .i64 (k : Nat)] w fun e w' => e = .returned (.int .i64 0) ∧ Ar_S B (fun k => B ≤ k) ab (A.out k) (n + 1) w' ∧ Below B w w' := by
  have hB := h.hB
  refine (free_yes_S h hn hx).mono fun e w' ⟨q1, q2, q3⟩ => ⟨q1, q2.mono (fun k hk => by rcases hk with hk | hk; exact hk; show B ≤ k; omega) (fun k hk => hk), q3.below (fun k hk => hk) hB⟩
end
def kA0 : ArS ByteArray := newA
def kA1 : ArS ByteArray := kA0.take ⟨#[97]⟩
def kA2 : ArS ByteArray := kA1.take ⟨#[98]⟩
def kA3 : ArS ByteArray := kA2.take ⟨#[99]⟩
def kA4 : ArS ByteArray := kA3.out 0
def kA5 : ArS ByteArray := kA4.out 2
def kA6 : ArS ByteArray := kA5.take ⟨#[100]⟩
def kA7 : ArS ByteArray := kA6.take ⟨#[101]⟩
def kA8 : ArS ByteArray := kA7.take ⟨#[102]⟩
theorem k_len8 : kA8.len = 4 := by kernel_rfl
theorem k_cap8 : kA8.ps.length = 4 := by kernel_rfl
theorem k_at8 : kA8.at_ 2 = some ⟨#[100]⟩ := by kernel_rfl
theorem k_no8 : kA8.has 5 = false := by kernel_rfl
theorem k_no9 : kA8.has 9 = false := by kernel_rfl

set_option maxRecDepth 100000 in
set_option maxHeartbeats 2000000 in
theorem known8_any (w : World) :
    Calls Try.prog 8 #[] w fun e w' => e = .returned (.bool true) ∧ Below w.heap.size w w' := by
  obtain ⟨B, hB⟩ : ∃ B, w.heap.size = B := ⟨_, rfl⟩
  have hN := new_S w
  rw [hB] at hN ⊢
  have HN := Lib.hid hN
  clear hN hB
  go_enter Try.func8, Try.ntmps8
  go_wp2_with (go_at_call 20; refine HN.out.mono ?_; rintro e w1 ⟨ab, rfl, hT, hb, -⟩; refine Hid.out ?_)
  have T0 := Lib.hid (show Ar_S B (fun k => B ≤ k) ab kA0 0 w1 from hT)
  have B0 := Lib.hid hb
  clear hT hb HN
  refine Lib.hid ?_
  go_wp2_with (go_at_call 22; refine (takeW ⟨#[97]⟩ T0.out (by omega) (i := 0) (by kernel_rfl)).mono ?_; rintro e w2 ⟨rfl, hT, hb⟩; refine Hid.out ?_)
  have T1 := Lib.hid (show Ar_S B (fun k => B ≤ k) ab kA1 1 w2 from hT)
  have B1 := Lib.hid (B0.out.trans hb)
  clear hT hb T0 B0
  refine Lib.hid ?_
  go_wp2_with (go_at_call 22; refine (takeW ⟨#[98]⟩ T1.out (by omega) (i := 1) (by kernel_rfl)).mono ?_; rintro e w3 ⟨rfl, hT, hb⟩; refine Hid.out ?_)
  have T2 := Lib.hid (show Ar_S B (fun k => B ≤ k) ab kA2 2 w3 from hT)
  have B2 := Lib.hid (B1.out.trans hb)
  clear hT hb T1 B1
  refine Lib.hid ?_
  go_wp2_with (go_at_call 22; refine (takeW ⟨#[99]⟩ T2.out (by omega) (i := 2) (by kernel_rfl)).mono ?_; rintro e w4 ⟨rfl, hT, hb⟩; refine Hid.out ?_)
  have T3 := Lib.hid (show Ar_S B (fun k => B ≤ k) ab kA3 3 w4 from hT)
  have B3 := Lib.hid (B2.out.trans hb)
  clear hT hb T2 B2
  refine Lib.hid ?_
  go_wp2_with (go_at_call 23; refine (freeW (k := 0) (x := ⟨#[97]⟩) T3.out (by omega) (by kernel_rfl)).mono ?_; rintro e w5 ⟨rfl, hT, hb⟩; refine Hid.out ?_)
  have T4 := Lib.hid (show Ar_S B (fun k => B ≤ k) ab kA4 4 w5 from hT)
  have B4 := Lib.hid (B3.out.trans hb)
  clear hT hb T3 B3
  refine Lib.hid ?_
  go_wp2_with (go_at_call 23; refine (freeW (k := 2) (x := ⟨#[99]⟩) T4.out (by omega) (by kernel_rfl)).mono ?_; rintro e w6 ⟨rfl, hT, hb⟩; refine Hid.out ?_)
  have T5 := Lib.hid (show Ar_S B (fun k => B ≤ k) ab kA5 5 w6 from hT)
  have B5 := Lib.hid (B4.out.trans hb)
  clear hT hb T4 B4
  refine Lib.hid ?_
  go_wp2_with (go_at_call 22; refine (takeW ⟨#[100]⟩ T5.out (by omega) (i := 2) (by kernel_rfl)).mono ?_; rintro e w7 ⟨rfl, hT, hb⟩; refine Hid.out ?_)
  have T6 := Lib.hid (show Ar_S B (fun k => B ≤ k) ab kA6 6 w7 from hT)
  have B6 := Lib.hid (B5.out.trans hb)
  clear hT hb T5 B5
  refine Lib.hid ?_
  go_wp2_with (go_at_call 22; refine (takeW ⟨#[101]⟩ T6.out (by omega) (i := 0) (by kernel_rfl)).mono ?_; rintro e w8 ⟨rfl, hT, hb⟩; refine Hid.out ?_)
  have T7 := Lib.hid (show Ar_S B (fun k => B ≤ k) ab kA7 7 w8 from hT)
  have B7 := Lib.hid (B6.out.trans hb)
  clear hT hb T6 B6
  refine Lib.hid ?_
  go_wp2_with (go_at_call 22; refine (takeW ⟨#[102]⟩ T7.out (by omega) (i := 3) (by kernel_rfl)).mono ?_; rintro e w9 ⟨rfl, hT, hb⟩; refine Hid.out ?_)
  have T8 := Lib.hid (show Ar_S B (fun k => B ≤ k) ab kA8 8 w9 from hT)
  have B8 := Lib.hid (B7.out.trans hb)
  clear hT hb T7 B7
  refine Lib.hid ?_
  go_wp2_with (go_at_call 25; refine (ats_S (k := 2) T8.out (by omega) k_at8).mono ?_; rintro e wx ⟨rfl, hw⟩; have hw := hw.symm; subst hw; refine Hid.out ?_)
  refine Lib.hid ?_
  go_wp2_with (go_at_call 25; refine (at_not_S T8.out (by omega) k_no8).mono ?_; rintro e wx ⟨rfl, hw⟩; have hw := hw.symm; subst hw; refine Hid.out ?_)
  have HF := Lib.hid (free_not_S T8.out (by omega) k_no9)
  have hL := lens_S T8.out (by omega)
  rw [k_len8] at hL
  have HL := Lib.hid hL
  have HC := Lib.hid (fun q => (by
    have := caps_S (T8.out.below (blw_drewN (Below.refl _ w9) q))
    rw [k_cap8] at this
    exact this : Calls Try.prog 27 #[.pointer (some ⟨ab, 0, none⟩)] (w9.drewN q) fun e w' => e = .returned (.int .i64 (4 : Nat)) ∧ w' = w9.drewN q))
  clear hL
  refine Lib.hid ?_
  go_wp2_with (first
    | (go_at_call 23; refine HF.out.mono ?_; rintro e wx ⟨rfl, hw⟩; have hw := hw.symm; subst hw)
    | (go_at_call 26; refine HL.out.mono ?_; rintro e wx ⟨rfl, q, rfl⟩)
    | (go_at_call 27; refine (HC.out q).mono ?_; rintro e wx ⟨rfl, rfl⟩))
  go_ret
  exact ⟨rfl, blw_drewN B8.out q⟩
end Go.Proofs.Yteilhjkkgdgbkaa
