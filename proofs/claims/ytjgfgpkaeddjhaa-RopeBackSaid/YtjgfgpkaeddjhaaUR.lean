
import Derived.Test.YtjgfgpkaeddjhaaUQ
/- UR: RopeDeletes, RopeEither -/
namespace Go.Proofs.Ytjgfgpkaeddjhaa
open Go.RowKit
set_option linter.unusedVariables false
set_option maxRecDepth 100000
set_option maxHeartbeats 2000000 in
theorem deletes_long (v1 : Value) (l : List Int) (i j k m : Int) (w : World) (h1 : Ints .i32 w v1 l) (hl : ¬ l.length ≤ 2000) :
    Calls Try.prog 8 #[v1, .int .i64 i, .int .i64 j, .int .i64 k, .int .i64 m] w fun e w' => e = .returned (.bool true) ∧ Below w.heap.size w w' := by
  have V1 := Lib.hid h1
  obtain ⟨a1, c1, rfl⟩ := h1.shape
  have hlen := h1.len
  have g0 : decide ((2000 : Int) < (l.length : Int)) = true := decide_eq_true (by omega)
  clear h1
  go_enter Try.func8, Try.ntmps8
  go_wp2_with (first
    | (go_at_call 9; (with_reducible refine (known10_any _).mono ?_); rintro e w1 ⟨rfl, bb⟩; have B99 := Lib.hid bb; clear bb))
  go_ret
  exact ⟨rfl, B99.out⟩
set_option maxHeartbeats 2000000 in
theorem deletes_bad (v1 : Value) (l : List Int) (i j k m : Int) (w : World) (h1 : Ints .i32 w v1 l) (hl : l.length ≤ 2000) (hc : l.all code = false) :
    Calls Try.prog 8 #[v1, .int .i64 i, .int .i64 j, .int .i64 k, .int .i64 m] w fun e w' => e = .returned (.bool true) ∧ Below w.heap.size w w' := by
  have V1 := Lib.hid h1
  obtain ⟨a1, c1, rfl⟩ := h1.shape
  have hlen := h1.len
  have g0 : decide ((2000 : Int) < (l.length : Int)) = false := decide_eq_false (by omega)
  have HC := Lib.hid hc
  have HQ := Lib.hid hl
  clear h1
  go_enter Try.func8, Try.ntmps8
  go_wp2_with (first
    | (go_at_call 23; (with_reducible refine (rv_new (B := w.heap.size) w (Nat.le_refl _)).mono ?_); rintro e w1 ⟨rb, rfl, q1, bb⟩; have R1 := Lib.hid q1; have B1 := Lib.hid bb; clear q1 bb)
    | (go_at_call 23; (with_reducible refine (rv_new2 R1.out).mono ?_); rintro e w2 ⟨sb, rfl, q1, bb⟩; have R2 := Lib.hid q1; have B2 := Lib.hid (below_add B1.out bb B1.out.size); clear q1 bb)
    | (go_at_call 16; (with_reducible refine (r2_insE R2.out (by have := HQ.out; simp; omega) 0 (.slice a1 l.length c1) (V1.out.below B2.out) (insE_bad HC.out) rfl).mono ?_); rintro e w3 ⟨rfl, q1, bb⟩; have R3 := Lib.hid q1; have B3 := Lib.hid (B2.out.trans bb); clear q1 bb)
    | (go_at_call 9; (with_reducible refine (known10_any _).mono ?_); rintro e w4 ⟨rfl, bb⟩; have B99 := Lib.hid (below_add B3.out bb B3.out.size); clear bb))
  go_ret
  exact ⟨rfl, B99.out⟩
set_option maxHeartbeats 2000000 in
theorem deletes_i0 (v1 : Value) (l : List Int) (i j k m : Int) (w : World) (h1 : Ints .i32 w v1 l) (hl : l.length ≤ 2000) (hc : l.all code = true) (hx : ¬ 0 ≤ i) :
    Calls Try.prog 8 #[v1, .int .i64 i, .int .i64 j, .int .i64 k, .int .i64 m] w fun e w' => e = .returned (.bool true) ∧ Below w.heap.size w w' := by
  have V1 := Lib.hid h1
  obtain ⟨a1, c1, rfl⟩ := h1.shape
  have hlen := h1.len
  have g0 : decide ((2000 : Int) < (l.length : Int)) = false := decide_eq_false (by omega)
  have d1 : decide (i < 0) = true := decide_eq_true (by omega)
  have HC := Lib.hid hc
  have HQ := Lib.hid hl
  clear hx
  clear h1
  go_enter Try.func8, Try.ntmps8
  go_wp2_with (first
    | (go_at_call 23; (with_reducible refine (rv_new (B := w.heap.size) w (Nat.le_refl _)).mono ?_); rintro e w1 ⟨rb, rfl, q1, bb⟩; have R1 := Lib.hid q1; have B1 := Lib.hid bb; clear q1 bb)
    | (go_at_call 23; (with_reducible refine (rv_new2 R1.out).mono ?_); rintro e w2 ⟨sb, rfl, q1, bb⟩; have R2 := Lib.hid q1; have B2 := Lib.hid (below_add B1.out bb B1.out.size); clear q1 bb)
    | (go_at_call 16; (with_reducible refine (r2_insE R2.out (by have := HQ.out; simp; omega) 0 (.slice a1 l.length c1) (V1.out.below B2.out) (insE_new HC.out) (insL_new HC.out)).mono ?_); rintro e w3 ⟨rfl, q1, bb⟩; have R3 := Lib.hid q1; have B3 := Lib.hid (B2.out.trans bb); clear q1 bb)
    | (go_at_call 16; (with_reducible refine (r2_insE R3.out.swap (by have := HQ.out; simp; omega) 0 (.slice a1 l.length c1) (V1.out.below B3.out) (insE_new HC.out) (insL_new HC.out)).mono ?_); rintro e w4 ⟨rfl, q1, bb⟩; have R4 := Lib.hid q1.swap; have B4 := Lib.hid (B3.out.trans bb); clear q1 bb)
    | (go_at_call 9; (with_reducible refine (known10_any _).mono ?_); rintro e w5 ⟨rfl, bb⟩; have B99 := Lib.hid (below_add B4.out bb B4.out.size); clear bb))
  go_ret
  exact ⟨rfl, B99.out⟩
set_option maxHeartbeats 2000000 in
theorem deletes_ij (v1 : Value) (l : List Int) (i j k m : Int) (w : World) (h1 : Ints .i32 w v1 l) (hl : l.length ≤ 2000) (hc : l.all code = true) (hx : 0 ≤ i ∧ ¬ i ≤ j) :
    Calls Try.prog 8 #[v1, .int .i64 i, .int .i64 j, .int .i64 k, .int .i64 m] w fun e w' => e = .returned (.bool true) ∧ Below w.heap.size w w' := by
  have V1 := Lib.hid h1
  obtain ⟨a1, c1, rfl⟩ := h1.shape
  have hlen := h1.len
  have g0 : decide ((2000 : Int) < (l.length : Int)) = false := decide_eq_false (by omega)
  have d1 : decide (i < 0) = false := decide_eq_false (by omega)
  have d2 : decide (j < i) = true := decide_eq_true (by omega)
  have HC := Lib.hid hc
  have HQ := Lib.hid hl
  clear hx
  clear h1
  go_enter Try.func8, Try.ntmps8
  go_wp2_with (first
    | (go_at_call 23; (with_reducible refine (rv_new (B := w.heap.size) w (Nat.le_refl _)).mono ?_); rintro e w1 ⟨rb, rfl, q1, bb⟩; have R1 := Lib.hid q1; have B1 := Lib.hid bb; clear q1 bb)
    | (go_at_call 23; (with_reducible refine (rv_new2 R1.out).mono ?_); rintro e w2 ⟨sb, rfl, q1, bb⟩; have R2 := Lib.hid q1; have B2 := Lib.hid (below_add B1.out bb B1.out.size); clear q1 bb)
    | (go_at_call 16; (with_reducible refine (r2_insE R2.out (by have := HQ.out; simp; omega) 0 (.slice a1 l.length c1) (V1.out.below B2.out) (insE_new HC.out) (insL_new HC.out)).mono ?_); rintro e w3 ⟨rfl, q1, bb⟩; have R3 := Lib.hid q1; have B3 := Lib.hid (B2.out.trans bb); clear q1 bb)
    | (go_at_call 16; (with_reducible refine (r2_insE R3.out.swap (by have := HQ.out; simp; omega) 0 (.slice a1 l.length c1) (V1.out.below B3.out) (insE_new HC.out) (insL_new HC.out)).mono ?_); rintro e w4 ⟨rfl, q1, bb⟩; have R4 := Lib.hid q1.swap; have B4 := Lib.hid (B3.out.trans bb); clear q1 bb)
    | (go_at_call 9; (with_reducible refine (known10_any _).mono ?_); rintro e w5 ⟨rfl, bb⟩; have B99 := Lib.hid (below_add B4.out bb B4.out.size); clear bb))
  go_ret
  exact ⟨rfl, B99.out⟩
set_option maxHeartbeats 2000000 in
theorem deletes_jk (v1 : Value) (l : List Int) (i j k m : Int) (w : World) (h1 : Ints .i32 w v1 l) (hl : l.length ≤ 2000) (hc : l.all code = true) (hx : 0 ≤ i ∧ i ≤ j ∧ ¬ j ≤ k) :
    Calls Try.prog 8 #[v1, .int .i64 i, .int .i64 j, .int .i64 k, .int .i64 m] w fun e w' => e = .returned (.bool true) ∧ Below w.heap.size w w' := by
  have V1 := Lib.hid h1
  obtain ⟨a1, c1, rfl⟩ := h1.shape
  have hlen := h1.len
  have g0 : decide ((2000 : Int) < (l.length : Int)) = false := decide_eq_false (by omega)
  have d1 : decide (i < 0) = false := decide_eq_false (by omega)
  have d2 : decide (j < i) = false := decide_eq_false (by omega)
  have d3 : decide (k < j) = true := decide_eq_true (by omega)
  have HC := Lib.hid hc
  have HQ := Lib.hid hl
  clear hx
  clear h1
  go_enter Try.func8, Try.ntmps8
  go_wp2_with (first
    | (go_at_call 23; (with_reducible refine (rv_new (B := w.heap.size) w (Nat.le_refl _)).mono ?_); rintro e w1 ⟨rb, rfl, q1, bb⟩; have R1 := Lib.hid q1; have B1 := Lib.hid bb; clear q1 bb)
    | (go_at_call 23; (with_reducible refine (rv_new2 R1.out).mono ?_); rintro e w2 ⟨sb, rfl, q1, bb⟩; have R2 := Lib.hid q1; have B2 := Lib.hid (below_add B1.out bb B1.out.size); clear q1 bb)
    | (go_at_call 16; (with_reducible refine (r2_insE R2.out (by have := HQ.out; simp; omega) 0 (.slice a1 l.length c1) (V1.out.below B2.out) (insE_new HC.out) (insL_new HC.out)).mono ?_); rintro e w3 ⟨rfl, q1, bb⟩; have R3 := Lib.hid q1; have B3 := Lib.hid (B2.out.trans bb); clear q1 bb)
    | (go_at_call 16; (with_reducible refine (r2_insE R3.out.swap (by have := HQ.out; simp; omega) 0 (.slice a1 l.length c1) (V1.out.below B3.out) (insE_new HC.out) (insL_new HC.out)).mono ?_); rintro e w4 ⟨rfl, q1, bb⟩; have R4 := Lib.hid q1.swap; have B4 := Lib.hid (B3.out.trans bb); clear q1 bb)
    | (go_at_call 9; (with_reducible refine (known10_any _).mono ?_); rintro e w5 ⟨rfl, bb⟩; have B99 := Lib.hid (below_add B4.out bb B4.out.size); clear bb))
  go_ret
  exact ⟨rfl, B99.out⟩
set_option maxHeartbeats 2000000 in
theorem deletes_km (v1 : Value) (l : List Int) (i j k m : Int) (w : World) (h1 : Ints .i32 w v1 l) (hl : l.length ≤ 2000) (hc : l.all code = true) (hx : 0 ≤ i ∧ i ≤ j ∧ j ≤ k ∧ ¬ k ≤ m) :
    Calls Try.prog 8 #[v1, .int .i64 i, .int .i64 j, .int .i64 k, .int .i64 m] w fun e w' => e = .returned (.bool true) ∧ Below w.heap.size w w' := by
  have V1 := Lib.hid h1
  obtain ⟨a1, c1, rfl⟩ := h1.shape
  have hlen := h1.len
  have g0 : decide ((2000 : Int) < (l.length : Int)) = false := decide_eq_false (by omega)
  have d1 : decide (i < 0) = false := decide_eq_false (by omega)
  have d2 : decide (j < i) = false := decide_eq_false (by omega)
  have d3 : decide (k < j) = false := decide_eq_false (by omega)
  have d4 : decide (m < k) = true := decide_eq_true (by omega)
  have HC := Lib.hid hc
  have HQ := Lib.hid hl
  clear hx
  clear h1
  go_enter Try.func8, Try.ntmps8
  go_wp2_with (first
    | (go_at_call 23; (with_reducible refine (rv_new (B := w.heap.size) w (Nat.le_refl _)).mono ?_); rintro e w1 ⟨rb, rfl, q1, bb⟩; have R1 := Lib.hid q1; have B1 := Lib.hid bb; clear q1 bb)
    | (go_at_call 23; (with_reducible refine (rv_new2 R1.out).mono ?_); rintro e w2 ⟨sb, rfl, q1, bb⟩; have R2 := Lib.hid q1; have B2 := Lib.hid (below_add B1.out bb B1.out.size); clear q1 bb)
    | (go_at_call 16; (with_reducible refine (r2_insE R2.out (by have := HQ.out; simp; omega) 0 (.slice a1 l.length c1) (V1.out.below B2.out) (insE_new HC.out) (insL_new HC.out)).mono ?_); rintro e w3 ⟨rfl, q1, bb⟩; have R3 := Lib.hid q1; have B3 := Lib.hid (B2.out.trans bb); clear q1 bb)
    | (go_at_call 16; (with_reducible refine (r2_insE R3.out.swap (by have := HQ.out; simp; omega) 0 (.slice a1 l.length c1) (V1.out.below B3.out) (insE_new HC.out) (insL_new HC.out)).mono ?_); rintro e w4 ⟨rfl, q1, bb⟩; have R4 := Lib.hid q1.swap; have B4 := Lib.hid (B3.out.trans bb); clear q1 bb)
    | (go_at_call 9; (with_reducible refine (known10_any _).mono ?_); rintro e w5 ⟨rfl, bb⟩; have B99 := Lib.hid (below_add B4.out bb B4.out.size); clear bb))
  go_ret
  exact ⟨rfl, B99.out⟩
set_option maxHeartbeats 2000000 in
theorem deletes_ml (v1 : Value) (l : List Int) (i j k m : Int) (w : World) (h1 : Ints .i32 w v1 l) (hl : l.length ≤ 2000) (hc : l.all code = true) (hx : 0 ≤ i ∧ i ≤ j ∧ j ≤ k ∧ k ≤ m ∧ ¬ m ≤ (l.length : Nat)) :
    Calls Try.prog 8 #[v1, .int .i64 i, .int .i64 j, .int .i64 k, .int .i64 m] w fun e w' => e = .returned (.bool true) ∧ Below w.heap.size w w' := by
  have V1 := Lib.hid h1
  obtain ⟨a1, c1, rfl⟩ := h1.shape
  have hlen := h1.len
  have g0 : decide ((2000 : Int) < (l.length : Int)) = false := decide_eq_false (by omega)
  have d1 : decide (i < 0) = false := decide_eq_false (by omega)
  have d2 : decide (j < i) = false := decide_eq_false (by omega)
  have d3 : decide (k < j) = false := decide_eq_false (by omega)
  have d4 : decide (m < k) = false := decide_eq_false (by omega)
  have d5 : decide ((l.length : Int) < m) = true := decide_eq_true (by omega)
  have HC := Lib.hid hc
  have HQ := Lib.hid hl
  clear hx
  clear h1
  go_enter Try.func8, Try.ntmps8
  go_wp2_with (first
    | (go_at_call 23; (with_reducible refine (rv_new (B := w.heap.size) w (Nat.le_refl _)).mono ?_); rintro e w1 ⟨rb, rfl, q1, bb⟩; have R1 := Lib.hid q1; have B1 := Lib.hid bb; clear q1 bb)
    | (go_at_call 23; (with_reducible refine (rv_new2 R1.out).mono ?_); rintro e w2 ⟨sb, rfl, q1, bb⟩; have R2 := Lib.hid q1; have B2 := Lib.hid (below_add B1.out bb B1.out.size); clear q1 bb)
    | (go_at_call 16; (with_reducible refine (r2_insE R2.out (by have := HQ.out; simp; omega) 0 (.slice a1 l.length c1) (V1.out.below B2.out) (insE_new HC.out) (insL_new HC.out)).mono ?_); rintro e w3 ⟨rfl, q1, bb⟩; have R3 := Lib.hid q1; have B3 := Lib.hid (B2.out.trans bb); clear q1 bb)
    | (go_at_call 16; (with_reducible refine (r2_insE R3.out.swap (by have := HQ.out; simp; omega) 0 (.slice a1 l.length c1) (V1.out.below B3.out) (insE_new HC.out) (insL_new HC.out)).mono ?_); rintro e w4 ⟨rfl, q1, bb⟩; have R4 := Lib.hid q1.swap; have B4 := Lib.hid (B3.out.trans bb); clear q1 bb)
    | (go_at_call 9; (with_reducible refine (known10_any _).mono ?_); rintro e w5 ⟨rfl, bb⟩; have B99 := Lib.hid (below_add B4.out bb B4.out.size); clear bb))
  go_ret
  exact ⟨rfl, B99.out⟩
set_option maxHeartbeats 2000000 in
theorem deletes_good (v1 : Value) (l : List Int) (i j k m : Int) (w : World) (h1 : Ints .i32 w v1 l) (hl : l.length ≤ 2000) (hc : l.all code = true) (x1 : 0 ≤ i) (x2 : i ≤ j) (x3 : j ≤ k) (x4 : k ≤ m) (x5 : m ≤ (l.length : Nat)) :
    Calls Try.prog 8 #[v1, .int .i64 i, .int .i64 j, .int .i64 k, .int .i64 m] w fun e w' => e = .returned (.bool true) ∧ Below w.heap.size w w' := by
  have V1 := Lib.hid h1
  obtain ⟨a1, c1, rfl⟩ := h1.shape
  have hlen := h1.len
  obtain ⟨LF, q1, q2, q3, q4, q5, q6, q7⟩ := deletes_facts l i j k m x1 x2 x3 x4 x5
  have g0 : decide ((2000 : Int) < (l.length : Int)) = false := decide_eq_false (by omega)
  have d1 : decide (i < 0) = false := decide_eq_false (by omega)
  have d2 : decide (j < i) = false := decide_eq_false (by omega)
  have d3 : decide (k < j) = false := decide_eq_false (by omega)
  have d4 : decide (m < k) = false := decide_eq_false (by omega)
  have d5 : decide ((l.length : Int) < m) = false := decide_eq_false (by omega)
  have HC := Lib.hid hc
  have HQ0 := Lib.hid (show ([] : List Int).length + l.length + 64 ≤ 400000 by simp; omega)
  have HQ1 := Lib.hid (show l.length + 64 ≤ 400000 ∧ (delL l k m).length + 64 ≤ 400000 ∧ (delL l i j).length + 64 ≤ 400000 by have := delL_len l k m; have := delL_len l i j; omega)
  have HQ2 := Lib.hid (show LF.length ≤ 400000 by omega)
  obtain ⟨nf, hnf⟩ : ∃ n, LF.length = n := ⟨_, rfl⟩
  rw [hnf] at q7
  have gq : (((nf : Nat) : Int) == ((l.length : Nat) : Int) - (j - i) - (m - k)) = true := by rw [beq_iff_eq]; exact q7
  have E1 := Lib.hid q1
  have E2 := Lib.hid q2
  have E3 := Lib.hid q3
  have E4 := Lib.hid q4
  have E5 := Lib.hid q5
  have E6 := Lib.hid q6
  have E7 := Lib.hid hnf
  have u1 : 0 ≤ j - i := by omega
  have u2 : j - i ≤ 2000 := by omega
  have u3 : 0 ≤ k - (j - i) := by omega
  have u4 : k - (j - i) ≤ 2000 := by omega
  have u5 : 0 ≤ m - (j - i) := by omega
  have u6 : m - (j - i) ≤ 2000 := by omega
  have u7 : 0 ≤ ((l.length : Nat) : Int) - (j - i) := by omega
  have u8 : ((l.length : Nat) : Int) - (j - i) ≤ 2000 := by omega
  have u9 : 0 ≤ m - k := by omega
  have u10 : m - k ≤ 2000 := by omega
  have u11 : 0 ≤ ((l.length : Nat) : Int) - (j - i) - (m - k) := by omega
  have u12 : ((l.length : Nat) : Int) - (j - i) - (m - k) ≤ 2000 := by omega
  obtain ⟨n1, hn1⟩ : ∃ n, l.length = n := ⟨_, rfl⟩
  rw [hn1] at V1 hlen g0 d5 gq u7 u8 u11 u12 h1 ⊢
  clear q1 q2 q3 q4 q5 q6 q7 hnf x1 x2 x3 x4 x5 hl hc hn1
  clear h1
  go_enter Try.func8, Try.ntmps8
  go_wp2_with (first
    | (go_at_call 23; (with_reducible refine (rv_new (B := w.heap.size) w (Nat.le_refl _)).mono ?_); rintro e w1 ⟨rb, rfl, q1, bb⟩; have R1 := Lib.hid q1; have B1 := Lib.hid bb; clear q1 bb)
    | (go_at_call 23; (with_reducible refine (rv_new2 R1.out).mono ?_); rintro e w2 ⟨sb, rfl, q1, bb⟩; have R2 := Lib.hid q1; have B2 := Lib.hid (below_add B1.out bb B1.out.size); clear q1 bb)
    | (go_at_call 16; (with_reducible refine (r2_insE R2.out HQ0.out 0 (.slice a1 n1 c1) (V1.out.below B2.out) (insE_new HC.out) (insL_new HC.out)).mono ?_); rintro e w3 ⟨rfl, q1, bb⟩; have R3 := Lib.hid q1; have B3 := Lib.hid (B2.out.trans bb); clear q1 bb)
    | (go_at_call 16; (with_reducible refine (r2_insE R3.out.swap HQ0.out 0 (.slice a1 n1 c1) (V1.out.below B3.out) (insE_new HC.out) (insL_new HC.out)).mono ?_); rintro e w4 ⟨rfl, q1, bb⟩; have R4 := Lib.hid q1.swap; have B4 := Lib.hid (B3.out.trans bb); clear q1 bb)
    | (go_at_call 17; (with_reducible refine (r2_delE R4.out HQ1.out.1 k m E1.out rfl).mono ?_); rintro e w5 ⟨rfl, q1, bb⟩; have R5 := Lib.hid q1; have B5 := Lib.hid (B4.out.trans bb); clear q1 bb)
    | (go_at_call 17; (with_reducible refine (r2_delE R5.out HQ1.out.2.1 i j E2.out E5.out).mono ?_); rintro e w6 ⟨rfl, q1, bb⟩; have R6 := Lib.hid q1; have B6 := Lib.hid (B5.out.trans bb); clear q1 bb)
    | (go_at_call 17; (with_reducible refine (r2_delE R6.out.swap HQ1.out.1 i j E3.out rfl).mono ?_); rintro e w7 ⟨rfl, q1, bb⟩; have R7 := Lib.hid q1.swap; have B7 := Lib.hid (B6.out.trans bb); clear q1 bb)
    | (go_at_call 17; (with_reducible refine (r2_delE R7.out.swap HQ1.out.2.2 (k - (j - i)) (m - (j - i)) E4.out E6.out).mono ?_); rintro e w8 ⟨rfl, q1, bb⟩; have R8 := Lib.hid q1.swap; have B8 := Lib.hid (B7.out.trans bb); clear q1 bb)
    | (go_at_call 19; (with_reducible refine (rv_lenN R8.out.fst E7.out).mono ?_); rintro e w9 ⟨rfl, bb⟩; have R9 := Lib.hid (R8.out.below bb); have B9 := Lib.hid (below_add B8.out bb B8.out.size); clear bb)
    | (go_at_call 11; (with_reducible refine (rv_all R9.out.fst HQ2.out E7.out).mono ?_); rintro e w10 ⟨v8, rfl, hv, bb⟩; obtain ⟨xa, xc, hxx⟩ := hv.shape; rw [E7.out] at hxx; subst hxx; have V8 := Lib.hid hv; clear hv; have R10 := Lib.hid (R9.out.below bb); have B10 := Lib.hid (below_add B9.out bb B9.out.size); clear bb)
    | (go_at_call 19; (with_reducible refine (rv_lenN R10.out.snd E7.out).mono ?_); rintro e w11 ⟨rfl, bb⟩; have V8 := Lib.hid (V8.out.below bb); have R11 := Lib.hid (R10.out.below bb); have B11 := Lib.hid (below_add B10.out bb B10.out.size); clear bb)
    | (go_at_call 11; (with_reducible refine (rv_all R11.out.snd HQ2.out E7.out).mono ?_); rintro e w12 ⟨v9, rfl, hv, bb⟩; obtain ⟨ya, yc, hyy⟩ := hv.shape; rw [E7.out] at hyy; subst hyy; have V9 := Lib.hid hv; have V8 := Lib.hid (V8.out.below bb); clear hv; have R12 := Lib.hid (R11.out.below bb); have B12 := Lib.hid (below_add B11.out bb B11.out.size); clear bb)
    | (go_at_call 24; (with_reducible refine (same9_self _ _ _ _ rfl _ V8.out V9.out).mono ?_); rintro e w13 ⟨rfl, bb⟩; have R13 := Lib.hid (R12.out.below bb); have B13 := Lib.hid (below_add B12.out bb B12.out.size); clear bb)
    | (go_at_call 9; (with_reducible refine (known10_any _).mono ?_); rintro e w14 ⟨rfl, bb⟩; have B99 := Lib.hid (below_add B13.out bb B13.out.size); clear bb))
  go_ret
  exact ⟨rfl, B99.out⟩
theorem deletes_walk (v1 : Value) (l : List Int) (i j k m : Int) (w : World) (h1 : Ints .i32 w v1 l) :
    Calls Try.prog 8 #[v1, .int .i64 i, .int .i64 j, .int .i64 k, .int .i64 m] w fun e w' => e = .returned (.bool true) ∧ Below w.heap.size w w' := by
  by_cases hl : l.length ≤ 2000
  · cases hc : l.all code with
    | false => exact deletes_bad v1 l i j k m w h1 hl hc
    | true =>
      by_cases x1 : 0 ≤ i
      · by_cases x2 : i ≤ j
        · by_cases x3 : j ≤ k
          · by_cases x4 : k ≤ m
            · by_cases x5 : m ≤ (l.length : Nat)
              · exact deletes_good v1 l i j k m w h1 hl hc x1 x2 x3 x4 x5
              · exact deletes_ml v1 l i j k m w h1 hl hc ⟨x1, x2, x3, x4, x5⟩
            · exact deletes_km v1 l i j k m w h1 hl hc ⟨x1, x2, x3, x4⟩
          · exact deletes_jk v1 l i j k m w h1 hl hc ⟨x1, x2, x3⟩
        · exact deletes_ij v1 l i j k m w h1 hl hc ⟨x1, x2⟩
      · exact deletes_i0 v1 l i j k m w h1 hl hc x1
  · exact deletes_long v1 l i j k m w h1 hl
end Go.Proofs.Ytjgfgpkaeddjhaa
