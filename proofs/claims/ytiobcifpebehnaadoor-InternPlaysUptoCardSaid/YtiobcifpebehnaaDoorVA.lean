
import Derived.Test.YtiobcifpebehnaaDoorG
import Derived.Laws.StructEq
import Derived.Laws.Cover2
import Derived.Laws.FloatBits
import Derived.Laws.FloatArith
import Derived.Laws.Externs
import Derived.Laws.Bits64
import Derived.Laws.Bits64b
import Derived.Laws.BitsAllLaws
import Derived.Test.YtiobcifpebehnaaDoorRB
import Derived.Lib.ConvBytes
import Derived.Laws.AppendOwn
import Derived.Deep.RegionHeld3
/- Y1 -/
namespace Go.Proofs.YtiobcifpebehnaaDoor
open Go.RowKit
set_option linter.unusedVariables false

/-- A value as the program lays it: kind, number, bits, text. -/
@[reducible] def val (k n f : Int) (s : ByteArray) : Value := .agg #[.int .u8 k, .int .i64 n, .int .u64 f, .string s]
@[reducible] def vcells (k n f : Int) (s : ByteArray) : Array Value := #[.int .u8 k, .int .i64 n, .int .u64 f, .string s]

theorem val_eql (k n f k' n' f' : Int) (s s' : ByteArray) (w : World) :
    (binOp .eql 45 (val k n f s) (val k' n' f' s')).run Tryd.prog w = .ok (.bool ((k == k') && (n == n') && (f == f') && (s.toList == s'.toList))) w := by
  have hS : Tryd.prog.underlying 45 = some (.struct (Tryd.prog.fieldsOf 45)) := by kernel_rfl
  have hp : Tryd.prog.stoodInHeld 45 = false := by kernel_rfl
  have u1 := Tryd.underlying5
  have u2 := Tryd.underlying2
  have u3 := Tryd.underlying43
  have u4 := Tryd.underlying9
  have a1 := Tryd.isAgg5
  have a2 := Tryd.isAgg2
  have a3 := Tryd.isAgg43
  have a4 := Tryd.isAgg9
  have z1 := Tryd.sizeOf5
  have z2 := Tryd.sizeOf2
  have z3 := Tryd.sizeOf43
  have z4 := Tryd.sizeOf9
  rw [run_eql_struct, show (10000 : Nat) = 9999 + 1 from rfl, run_equalIn_agg w 9999 45 _ _ hS hp]
  simp only [Program.fieldsOf, Tryd.underlying45]
  go_simp
  by_cases h1 : k = k' <;> by_cases h2 : n = n' <;> by_cases h3 : f = f' <;> by_cases h4 : s.toList = s'.toList <;> simp [h1, h2, h3, h4]

theorem bits_of (b : Nat) (w : World) : (callFunc 76 #[.float .f64 b]).run Tryd.prog w = .ok (.value (.int .u64 b)) w :=
  run_callFunc_extern Tryd.func76 (by kernel_rfl) (by kernel_rfl) (by kernel_rfl) (e := Extern.MathFloatBits.float64bits) (by kernel_rfl) _ _
theorem of_bits (n : Int) (w : World) : (callFunc 67 #[.int .u64 n]).run Tryd.prog w = .ok (.value (.float .f64 n.toNat)) w :=
  run_callFunc_extern Tryd.func67 (by kernel_rfl) (by kernel_rfl) (by kernel_rfl) (e := Extern.MathFloatBits.float64frombits) (by kernel_rfl) _ _
end Go.Proofs.YtiobcifpebehnaaDoor

/- YM1 -/
namespace Go.Proofs.YtiobcifpebehnaaDoor
set_option linter.unusedVariables false

/-- Do the bits say 'no number'? -/
def nanI (f : Int) : Bool := decide (9218868437227405312 < f % 9223372036854775808)
def canonI (f : Int) : Int := if nanI f then 9221120237041090560 else f

theorem dbl_sw : Ieee.double.signWeight = 9223372036854775808 := by decide
theorem dbl_inf : Ieee.double.infRung = 9218868437227405312 := by decide
theorem dbl_bin : Ieee.double.binade = 4503599627370496 := by decide

theorem order_self (d : Ieee.Datum) : (d.order d != some .eq) = d.isNaN := by
  cases d with
  | number s m i => simp [Ieee.Datum.order, Ieee.Datum.isNaN]
  | infinity s => cases s <;> simp [Ieee.Datum.order, Ieee.Datum.isNaN]
  | nan s t => simp [Ieee.Datum.order, Ieee.Datum.isNaN]

theorem read_nan (b : Nat) : (Ieee.double.read b).isNaN = nanI (b : Int) := by
  unfold nanI Ieee.Format.read
  simp only [dbl_sw, dbl_inf, dbl_bin]
  have h : ((b : Int) % 9223372036854775808) = ((b % 9223372036854775808 : Nat) : Int) := by omega
  rw [h]
  generalize b % 9223372036854775808 = r
  split
  · simp [Ieee.Datum.isNaN]; omega
  · split
    · simp [Ieee.Datum.isNaN]; omega
    · split
      · simp [Ieee.Datum.isNaN]; omega
      · simp [Ieee.Datum.isNaN]; omega

/-- 'x != x'. -/
theorem nan_ne (b : Nat) : (FloatKind.f64.format.order b b != some .eq) = nanI (b : Int) := by
  rw [← read_nan b]; exact order_self _
theorem nan_eq (b : Nat) : (FloatKind.f64.format.order b b == some .eq) = !nanI (b : Int) := by
  rw [← nan_ne b]
  cases h : (FloatKind.f64.format.order b b == some .eq) <;> simp [bne, h]
end Go.Proofs.YtiobcifpebehnaaDoor

/- Y2 -/
namespace Go.Proofs.YtiobcifpebehnaaDoor
open Go.RowKit
set_option linter.unusedVariables false

theorem none_any (f : Int) (w : World) (h0 : 0 ≤ f) (h1 : f < 18446744073709551616) :
    Calls Tryd.prog 57 #[.int .u64 f] w fun e w' => e = .returned (.bool (nanI f)) ∧ w = w' := by
  go_enter Tryd.func57, Tryd.ntmps57
  go_wp2
  go_ret
  exact ⟨ret_bool (by unfold nanI; rfl), rfl⟩

theorem isnan_any (b : Nat) (w : World) :
    Calls Tryd.prog 77 #[.float .f64 b] w fun e w' => e = .returned (.bool (nanI b)) ∧ w = w' := by
  go_enter Tryd.func77, Tryd.ntmps77
  go_wp2
  go_ret
  exact ⟨ret_bool (nan_ne b), rfl⟩
end Go.Proofs.YtiobcifpebehnaaDoor

/- YM2 -/
namespace Go.Proofs.YtiobcifpebehnaaDoor
set_option linter.unusedVariables false

theorem u64_sign (f : Int) (h0 : 0 ≤ f) (h1 : f < 18446744073709551616) : bits .and .u64 f 9223372036854775808 = f / 9223372036854775808 * 9223372036854775808 := by
  obtain ⟨a, rfl⟩ := Int.eq_ofNat_of_zero_le h0
  have h := u64_and_nat a 9223372036854775808 (by omega) (by decide)
  have h2 := nat_bit 63 a
  rw [show (2 : Nat) ^ 63 = 9223372036854775808 from by decide] at h2
  rw [h2] at h
  have h' : bits .and .u64 (a : Int) 9223372036854775808 = ((a / 9223372036854775808 % 2 * 9223372036854775808 : Nat) : Int) := h
  rw [h']
  omega
theorem u64_signed (f : Int) (h0 : 0 ≤ f) (h1 : f < 9223372036854775808) : bits .or .u64 f 9223372036854775808 = f + 9223372036854775808 := by
  obtain ⟨a, rfl⟩ := Int.eq_ofNat_of_zero_le h0
  have h := u64_or_nat a 9223372036854775808 (by omega) (by decide)
  rw [Nat.or_comm, nat_join 63 9223372036854775808 a (by decide) (by omega)] at h
  have h' : bits .or .u64 (a : Int) 9223372036854775808 = ((9223372036854775808 + a : Nat) : Int) := h
  rw [h']
  omega
theorem u64_max : IntKind.u64.max = 18446744073709551615 := by decide
theorem u64_not (f : Int) (h0 : 0 ≤ f) (h1 : f < 18446744073709551616) : bits .xor .u64 IntKind.u64.max f = 18446744073709551615 - f := by
  rw [u64_max]
  obtain ⟨a, rfl⟩ := Int.eq_ofNat_of_zero_le h0
  show IntKind.u64.wrap ((BitVec.ofInt 64 18446744073709551615 ^^^ BitVec.ofInt 64 (a : Int)).toNat : Int) = _
  have h1' : BitVec.ofInt 64 18446744073709551615 = BitVec.allOnes 64 := by decide
  rw [h1', BitVec.allOnes_xor, BitVec.toNat_not, ofInt_u64 a (by omega)]
  simp [IntKind.wrap, IntKind.bits, IntKind.signed]
  omega

/-- Where a float's bits stand: the program's rank. -/
def rankI (f : Int) : Int := if 9223372036854775808 ≤ f then 18446744073709551615 - f else f + 9223372036854775808
/-- The document's. -/
def rrankI (f : Int) : Int := if f = 9221120237041090560 then 18446744073709551615 else rankI f

/-- Bits that may be a float's. -/
def okF (f : Int) : Prop := 0 ≤ f ∧ f < 18446744073709551616 ∧ (nanI f = false ∨ f = 9221120237041090560)
theorem nanI_iff (f : Int) : nanI f = true ↔ 9218868437227405312 < f % 9223372036854775808 := by unfold nanI; rw [decide_eq_true_iff]
theorem nanI_not (f : Int) : nanI f = false ↔ f % 9223372036854775808 ≤ 9218868437227405312 := by unfold nanI; rw [decide_eq_false_iff_not]; omega
theorem rank_same (f g : Int) (hf : okF f) (hg : okF g) : (rankI f < rankI g) ↔ (rrankI f < rrankI g) := by
  obtain ⟨f0, f1, hf⟩ := hf
  obtain ⟨g0, g1, hg⟩ := hg
  rw [nanI_not] at hf hg
  unfold rrankI rankI
  split <;> split <;> split <;> split <;> omega
end Go.Proofs.YtiobcifpebehnaaDoor

/- Y3 -/
namespace Go.Proofs.YtiobcifpebehnaaDoor
open Go.RowKit
set_option linter.unusedVariables false

theorem ret_u64 {a b : Int} (h : a = b) : Ending.returned (.int .u64 a) = .returned (.int .u64 b) := by rw [h]

theorem int_any (n : Int) (w : World) :
    Calls Tryd.prog 65 #[.int .i64 n] w fun e w' => e = .returned (val 2 n 0 ⟨#[]⟩) ∧ Below w.heap.size w w' := by
  go_enter Tryd.func65, Tryd.ntmps65
  go_wp2
  exact bodyPost_ret (v := val 2 n 0 ⟨#[]⟩) (by simp [results, Tryd.results65, go_sem]) rfl ⟨rfl, (Below.refl _ _).alloc (Nat.le_refl _) _⟩

theorem textof_any (s : ByteArray) (w : World) :
    Calls Tryd.prog 69 #[.string s] w fun e w' => e = .returned (val 4 0 0 s) ∧ Below w.heap.size w w' := by
  go_enter Tryd.func69, Tryd.ntmps69
  go_wp2
  exact bodyPost_ret (v := val 4 0 0 s) (by simp [results, Tryd.results69, go_sem]) rfl ⟨rfl, (Below.refl _ _).alloc (Nat.le_refl _) _⟩

/-- A flag's number. -/
def flagN (b : Bool) : Int := if b then 1 else 0
theorem flag_any (b : Bool) (w : World) :
    Calls Tryd.prog 64 #[.bool b] w fun e w' => e = .returned (val 1 (flagN b) 0 ⟨#[]⟩) ∧ Below w.heap.size w w' := by
  cases b
  all_goals
    go_enter Tryd.func64, Tryd.ntmps64
    go_wp2
  · exact bodyPost_ret (v := val 1 0 0 ⟨#[]⟩) (by simp [results, Tryd.results64, go_sem]) rfl ⟨rfl, ((Below.refl _ _).alloc (Nat.le_refl _) _).alloc (by simp) _⟩
  · exact bodyPost_ret (v := val 1 1 0 ⟨#[]⟩) (by simp [results, Tryd.results64, go_sem]) rfl ⟨rfl, ((Below.refl _ _).alloc (Nat.le_refl _) _).alloc (by simp) _⟩

theorem ret_val3 {a b : Int} (h : a = b) : Ending.returned (val 3 0 a ⟨#[]⟩) = .returned (val 3 0 b ⟨#[]⟩) := by rw [h]
theorem canon_no {f : Int} (h : nanI f = false) : f = canonI f := by unfold canonI; rw [h]; rfl
theorem canon_yes {f : Int} (h : nanI f = true) : 9221120237041090560 = canonI f := by unfold canonI; rw [h]; rfl

theorem float_any (b : Nat) (w : World) (hb : b < 18446744073709551616) :
    Calls Tryd.prog 66 #[.float .f64 b] w fun e w' => e = .returned (val 3 0 (canonI b) ⟨#[]⟩) ∧ Below w.heap.size w w' := by
  have hx := bits_of b
  cases hn : nanI b
  all_goals
    go_enter Tryd.func66, Tryd.ntmps66
    go_wp2_with (go_at_call 77; refine (isnan_any _ _).mono ?_; rintro e w' ⟨rfl, rfl⟩)
  · exact bodyPost_ret (v := val 3 0 b ⟨#[]⟩) (by simp [results, Tryd.results66, go_sem]) rfl ⟨ret_val3 (canon_no hn), ((Below.refl _ _).alloc (Nat.le_refl _) _).alloc (by simp) _⟩
  · exact bodyPost_ret (v := val 3 0 9221120237041090560 ⟨#[]⟩) (by simp [results, Tryd.results66, go_sem]) rfl ⟨ret_val3 (canon_yes hn), ((Below.refl _ _).alloc (Nat.le_refl _) _).alloc (by simp) _⟩

end Go.Proofs.YtiobcifpebehnaaDoor

/- Y4 -/
namespace Go.Proofs.YtiobcifpebehnaaDoor
open Go.RowKit
set_option linter.unusedVariables false

/-- A text's bytes as numbers. -/
def sbytes (s : ByteArray) : List Int := s.data.toList.map fun b => (b.toNat : Int)
theorem sbytes_len (s : ByteArray) : (sbytes s).length = s.size := by unfold sbytes; simp
theorem sbytes_wf (s : ByteArray) : ∀ b ∈ sbytes s, 0 ≤ b ∧ b < 256 := by
  intro b hb
  unfold sbytes at hb
  obtain ⟨x, _, rfl⟩ := List.mem_map.1 hb
  have := UInt8.toNat_lt x
  omega
theorem sbytes_bl (s : ByteArray) : strOfNums (sbytes s) = s := by
  apply ByteArray.ext
  apply Array.ext'
  unfold strOfNums sbytes
  simp [List.map_map, Function.comp_def]
theorem bytesWorld_below (w : World) (e : TypeId) (s : ByteArray) : Below w.heap.size w (Lib.bytesWorld w e s) :=
  ⟨rfl, rfl, rfl, by rw [Lib.bytesWorld_size]; omega, fun j hj => Lib.bytesWorld_at_old w e s j hj⟩
/-- '[]byte(s)': the bytes, in a row of the call's own. -/
theorem bytes_of (s : ByteArray) (w : World) (h : s.size ≤ 1048576) : ∃ v w1, (convert 9 71 (.string s)).run Tryd.prog w = .ok v w1 ∧ Ints .u8 w1 v (sbytes s) ∧ Below w.heap.size w w1 := by
  refine ⟨_, _, Lib.run_convert_string_bytes w 9 71 5 s Tryd.underlying9 Tryd.underlying71 Tryd.underlying5, ?_, bytesWorld_below w _ s⟩
  have hm : s.size ≤ maxLen := by unfold maxLen; omega
  have h1 := grownCap_ge w s.size 0 5
  have h2 := grownCap_le_maxLen w s.size 0 5 hm
  by_cases h0 : s.size = 0
  · refine .inl ⟨_, _, by rw [h0], ?_, h2, by simp⟩
    exact List.length_eq_zero_iff.1 (by rw [sbytes_len]; exact h0)
  · refine .inr ⟨_, _, _, by rw [sbytes_len], by rw [sbytes_len]; omega, by rw [sbytes_len]; exact h1, h2, fun j hj => ?_⟩
    rw [sbytes_len] at hj
    rw [Nat.zero_add, Lib.bytesWorld_cell w _ s j hj]
    unfold sbytes
    have : j < s.data.toList.length := by simpa using hj
    simp [List.getD, hj]

/-- May a text be: at most 64 bytes, and they are read. -/
def textB (s : ByteArray) : Bool := decide (s.size ≤ 64) && decide (rErr (sbytes s) = 0)
theorem textB_long {s : ByteArray} (h : ¬ s.size ≤ 64) : textB s = false := by unfold textB; simp; omega
theorem textB_short {s : ByteArray} (h : s.size ≤ 64) : textB s = (rErr (sbytes s) == 0) := by unfold textB; simp [h]; rfl

set_option maxRecDepth 100000 in
theorem istext_any (s : ByteArray) (w : World) :
    Calls Tryd.prog 68 #[.string s] w fun e w' => e = .returned (.bool (textB s)) ∧ Below w.heap.size w w' := by
  by_cases hl : s.size ≤ 64
  · obtain ⟨v, w1, hc, hi, hb⟩ := bytes_of s w (by omega)
    have hr := ((read_any v (sbytes s) w1 hi (by rw [sbytes_len]; omega)).mono fun e w' h => read_out h)
    have HR := Lib.hid hr
    clear hr hi
    have HT := Lib.hid (textB_short hl)
    go_enter Tryd.func68, Tryd.ntmps68
    go_wp2_with (go_at_call 78; refine HR.out.mono ?_; rintro e w' ⟨hb2, v2, rfl, _⟩)
    go_ret
    exact ⟨ret_bool HT.out.symm, hb.trans (hb2.mono hb.size)⟩
  · have HT := Lib.hid (textB_long hl)
    go_enter Tryd.func68, Tryd.ntmps68
    go_wp2
    go_ret
    exact ⟨ret_bool HT.out.symm, Below.refl _ _⟩
end Go.Proofs.YtiobcifpebehnaaDoor

/- Y5 -/
namespace Go.Proofs.YtiobcifpebehnaaDoor
open Go.RowKit
set_option linter.unusedVariables false

/-- A value's four cells at a block. -/
@[reducible] def At (B : Nat) (k n f : Int) (s : ByteArray) (w : World) : Prop :=
  w.cell? ⟨B, 0, none⟩ = some (.int .u8 k) ∧ w.cell? ⟨B, 1, none⟩ = some (.int .i64 n) ∧ w.cell? ⟨B, 2, none⟩ = some (.int .u64 f) ∧ w.cell? ⟨B, 3, none⟩ = some (.string s)
theorem At.below {B : Nat} {k n f : Int} {s : ByteArray} {w w' : World} (h : At B k n f s w) (hb : Below w.heap.size w w') : At B k n f s w' := by
  obtain ⟨h0, h1, h2, h3⟩ := h
  exact ⟨by rw [hb.cell (World.block_lt_of_cell? w _ h0)]; exact h0, by rw [hb.cell (World.block_lt_of_cell? w _ h1)]; exact h1, by rw [hb.cell (World.block_lt_of_cell? w _ h2)]; exact h2, by rw [hb.cell (World.block_lt_of_cell? w _ h3)]; exact h3⟩
theorem At.box (k n f : Int) (s : ByteArray) (w : World) (t : TypeId) : At w.heap.size k n f s (w.alloc (.cells (vcells k n f s) t)) := by
  refine ⟨?_, ?_, ?_, ?_⟩ <;> (rw [cell_of_row _ w.heap.size _ _ t (0, 0) (heap_alloc_new w _)]; rfl)

/-- May a value be. -/
def vmay (k n f : Int) (s : ByteArray) : Bool :=
  decide ((k = 1 ∧ (n = 0 ∨ n = 1) ∧ f = 0 ∧ s.size = 0) ∨ (k = 2 ∧ f = 0 ∧ s.size = 0) ∨ (k = 3 ∧ n = 0 ∧ canonI f = f ∧ s.size = 0) ∨ (k = 4 ∧ n = 0 ∧ f = 0 ∧ textB s = true))

theorem empty_iff (s : ByteArray) : s.toList.isEmpty = decide (s.size = 0) := by
  rw [Lib.toList_data]
  obtain ⟨⟨l⟩⟩ := s
  cases l <;> simp [ByteArray.size]

theorem vmay1 (n f : Int) (s : ByteArray) : (n == flagN (n == 1) && f == 0 && s.toList.isEmpty) = vmay 1 n f s := by
  rw [empty_iff]
  unfold vmay flagN
  rw [Bool.eq_iff_iff]
  by_cases h : n = 1
  · simp [h]
  · have : (n == 1) = false := by simpa using h
    rw [this]
    simp [h]
    constructor
    · rintro ⟨⟨a, b⟩, c⟩; exact ⟨a, b, c⟩
    · rintro ⟨a, b, c⟩; exact ⟨⟨a, b⟩, c⟩
theorem vmay2 (n f : Int) (s : ByteArray) : (f == 0 && s.toList.isEmpty) = vmay 2 n f s := by
  rw [empty_iff]; unfold vmay; rw [Bool.eq_iff_iff]; simp
theorem vmay3 (n f : Int) (s : ByteArray) : (n == 0 && f == canonI f && s.toList.isEmpty) = vmay 3 n f s := by
  rw [empty_iff]; unfold vmay; rw [Bool.eq_iff_iff]; simp; constructor
  · rintro ⟨⟨a, b⟩, c⟩; exact ⟨a, b.symm, c⟩
  · rintro ⟨a, b, c⟩; exact ⟨⟨a, b.symm⟩, c⟩
theorem vmay4 (n f : Int) (s : ByteArray) (h : textB s = true) : (n == 0 && f == 0) = vmay 4 n f s := by
  unfold vmay; rw [Bool.eq_iff_iff]; simp [h]
theorem vmay4n (n f : Int) (s : ByteArray) (h : textB s = false) : false = vmay 4 n f s := by
  unfold vmay; simp [h]
theorem vmay0 (k n f : Int) (s : ByteArray) (h1 : k ≠ 1) (h2 : k ≠ 2) (h3 : k ≠ 3) (h4 : k ≠ 4) : false = vmay k n f s := by
  unfold vmay; simp [h1, h2, h3, h4]

theorem may_one (n f : Int) (s : ByteArray) (w : World) :
    Calls Tryd.prog 53 #[val 1 n f s] w fun e w' => e = .returned (.bool (vmay 1 n f s)) ∧ Below w.heap.size w w' := by
  have hq := fun n' f' s' w => val_eql 1 n f 1 n' f' s s' w
  have hA := (At.box 1 n f s w 45).below ((Below.refl _ _).drew)
  have hB := (Below.refl w.heap.size w).alloc (Nat.le_refl _) (.cells (vcells 1 n f s) 45)
  have HE := Lib.hid (vmay1 n f s)
  go_enter Tryd.func53, Tryd.ntmps53
  go_wp2
  go_region_held3 (fun w' => At w.heap.size 1 n f s w') (first | assumption | trivial)
    (first
      | (go_at_call 64; ((with_reducible refine (flag_any _ _).mono ?_); rintro e w7 ⟨rfl, b7⟩; have h7 := hA.below b7)))
  go_wp2
  go_ret
  exact ⟨ret_bool HE.out, hB.drew.trans (b7.mono (by simp))⟩

theorem may_two (n f : Int) (s : ByteArray) (w : World) :
    Calls Tryd.prog 53 #[val 2 n f s] w fun e w' => e = .returned (.bool (vmay 2 n f s)) ∧ Below w.heap.size w w' := by
  have hq := fun n' f' s' w => val_eql 2 n f 2 n' f' s s' w
  have hA := (At.box 2 n f s w 45).below ((Below.refl _ _).drew)
  have hB := (Below.refl w.heap.size w).alloc (Nat.le_refl _) (.cells (vcells 2 n f s) 45)
  have HE := Lib.hid (vmay2 n f s)
  go_enter Tryd.func53, Tryd.ntmps53
  go_wp2
  go_region_held3 (fun w' => At w.heap.size 2 n f s w') (first | assumption | trivial)
    (first
      | (go_at_call 65; ((with_reducible refine (int_any _ _).mono ?_); rintro e w7 ⟨rfl, b7⟩; have h7 := hA.below b7)))
  go_wp2
  go_ret
  exact ⟨ret_bool (by rw [← HE.out]), hB.drew.trans (b7.mono (by simp))⟩

theorem may_three (n f : Int) (s : ByteArray) (w : World) (h0 : 0 ≤ f) (h1 : f < 18446744073709551616) :
    Calls Tryd.prog 53 #[val 3 n f s] w fun e w' => e = .returned (.bool (vmay 3 n f s)) ∧ Below w.heap.size w w' := by
  have hq := fun n' f' s' w => val_eql 3 n f 3 n' f' s s' w
  have hx := of_bits f
  have hc : canonI (f.toNat : Int) = canonI f := by rw [Int.toNat_of_nonneg h0]
  have hl : f.toNat < 18446744073709551616 := by omega
  have hA := (At.box 3 n f s w 45).below ((Below.refl _ _).drew)
  have hB := (Below.refl w.heap.size w).alloc (Nat.le_refl _) (.cells (vcells 3 n f s) 45)
  have HE := Lib.hid (vmay3 n f s)
  have HF : ∀ w, Calls Tryd.prog 66 #[.float .f64 f.toNat] w fun e w' => e = .returned (val 3 0 (canonI f) ⟨#[]⟩) ∧ Below w.heap.size w w' := fun w => by rw [← hc]; exact float_any _ w hl
  have HF := Lib.hid HF
  clear hc hl
  go_enter Tryd.func53, Tryd.ntmps53
  go_wp2
  go_region_held3 (fun w' => At w.heap.size 3 n f s w') (first | assumption | trivial)
    (first
      | (go_at_call 66; ((with_reducible refine (HF.out _).mono ?_); rintro e w7 ⟨rfl, b7⟩; have h7 := hA.below b7)))
  go_wp2
  go_ret
  exact ⟨ret_bool (by rw [← HE.out]), hB.drew.trans (b7.mono (by simp))⟩

theorem may_four (n f : Int) (s : ByteArray) (w : World) :
    Calls Tryd.prog 53 #[val 4 n f s] w fun e w' => e = .returned (.bool (vmay 4 n f s)) ∧ Below w.heap.size w w' := by
  have hq := fun n' f' s' w => val_eql 4 n f 4 n' f' s s' w
  have hA := (At.box 4 n f s w 45).below ((Below.refl _ _).drew)
  have hB := (Below.refl w.heap.size w).alloc (Nat.le_refl _) (.cells (vcells 4 n f s) 45)
  cases ht : textB s
  · have HE := Lib.hid (vmay4n n f s ht)
    have HF : ∀ w, Calls Tryd.prog 68 #[.string s] w fun e w' => e = .returned (.bool false) ∧ Below w.heap.size w w' := fun w => by rw [← ht]; exact istext_any _ w
    have HF := Lib.hid HF
    clear ht
    go_enter Tryd.func53, Tryd.ntmps53
    go_wp2
    first
      | (go_region_with (go_at_call 68; ((with_reducible refine (HF.out _).mono ?_); rintro e w7 ⟨rfl, b7⟩)))
      | fail
    all_goals
      go_wp2
      go_ret
      exact ⟨ret_bool (by rw [← HE.out]), hB.drew.trans (b7.mono (by simp))⟩
  · have HE := Lib.hid (vmay4 n f s ht)
    have HF : ∀ w, Calls Tryd.prog 68 #[.string s] w fun e w' => e = .returned (.bool true) ∧ Below w.heap.size w w' := fun w => by rw [← ht]; exact istext_any _ w
    have HF := Lib.hid HF
    clear ht
    go_enter Tryd.func53, Tryd.ntmps53
    go_wp2
    go_region_held (fun w' => At w.heap.size 4 n f s w') (first | assumption | trivial)
      (first
        | (go_at_call 68; ((with_reducible refine (HF.out _).mono ?_); rintro e w7 ⟨rfl, b7⟩; have h7 := hA.below b7))
        | (go_at_call 69; ((with_reducible refine (textof_any _ _).mono ?_); rintro e w8 ⟨rfl, b8⟩; have h8 := h7.below b8)))
    go_wp2
    go_ret
    exact ⟨ret_bool (by rw [← HE.out]), (hB.drew.trans (b7.mono (by simp))).trans (b8.mono (by have := b7.size; simp at this; omega))⟩

theorem may_other (k n f : Int) (s : ByteArray) (w : World) (h1 : k ≠ 1) (h2 : k ≠ 2) (h3 : k ≠ 3) (h4 : k ≠ 4) :
    Calls Tryd.prog 53 #[val k n f s] w fun e w' => e = .returned (.bool (vmay k n f s)) ∧ Below w.heap.size w w' := by
  have hB := (Below.refl w.heap.size w).alloc (Nat.le_refl _) (.cells (vcells k n f s) 45)
  have HE := Lib.hid (vmay0 k n f s h1 h2 h3 h4)
  have e1 : (k == 1) = false := by simpa using h1
  have e2 : (k == 2) = false := by simpa using h2
  have e3 : (k == 3) = false := by simpa using h3
  have e4 : (k == 4) = false := by simpa using h4
  go_enter Tryd.func53, Tryd.ntmps53
  go_wp2
  go_ret
  exact ⟨ret_bool (by rw [← HE.out]), hB⟩

theorem vmay_any (k n f : Int) (s : ByteArray) (w : World) (h0 : 0 ≤ f) (h1 : f < 18446744073709551616) :
    Calls Tryd.prog 53 #[val k n f s] w fun e w' => e = .returned (.bool (vmay k n f s)) ∧ Below w.heap.size w w' := by
  by_cases e1 : k = 1
  · subst e1; exact may_one n f s w
  · by_cases e2 : k = 2
    · subst e2; exact may_two n f s w
    · by_cases e3 : k = 3
      · subst e3; exact may_three n f s w h0 h1
      · by_cases e4 : k = 4
        · subst e4; exact may_four n f s w
        · exact may_other k n f s w e1 e2 e3 e4
end Go.Proofs.YtiobcifpebehnaaDoor
