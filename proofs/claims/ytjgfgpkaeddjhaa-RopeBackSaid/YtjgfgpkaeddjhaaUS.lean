
import Derived.Test.YtjgfgpkaeddjhaaUR
/- US: RopeEither -/
namespace Go.Proofs.Ytjgfgpkaeddjhaa
open Go.RowKit
set_option linter.unusedVariables false
set_option maxRecDepth 100000
set_option maxHeartbeats 2000000 in
theorem either_long1 (v1 v2 v3 : Value) (l a b : List Int) (i j : Int) (w : World) (h1 : Ints .i32 w v1 l) (h2 : Ints .i32 w v2 a) (h3 : Ints .i32 w v3 b) (hl : ¬ l.length ≤ 1000) :
    Calls Try.prog 6 #[v1, v2, v3, .int .i64 i, .int .i64 j] w fun e w' => e = .returned (.bool true) ∧ Below w.heap.size w w' := by
  have V1 := Lib.hid h1
  have V2 := Lib.hid h2
  have V3 := Lib.hid h3
  obtain ⟨a1, c1, rfl⟩ := h1.shape
  obtain ⟨a2, c2, rfl⟩ := h2.shape
  obtain ⟨a3, c3, rfl⟩ := h3.shape
  have hlen1 := h1.len
  have hlen2 := h2.len
  have hlen3 := h3.len
  have g1 : decide ((1000 : Int) < (l.length : Int)) = true := decide_eq_true (by omega)
  clear h1 h2 h3
  go_enter Try.func6, Try.ntmps6
  go_wp2_with (first
    | (go_at_call 9; (with_reducible refine (known10_any _).mono ?_); rintro e w1 ⟨rfl, bb⟩; have B99 := Lib.hid bb; clear bb))
  go_ret
  exact ⟨rfl, B99.out⟩
set_option maxHeartbeats 2000000 in
theorem either_long2 (v1 v2 v3 : Value) (l a b : List Int) (i j : Int) (w : World) (h1 : Ints .i32 w v1 l) (h2 : Ints .i32 w v2 a) (h3 : Ints .i32 w v3 b) (hl : l.length ≤ 1000 ∧ ¬ a.length ≤ 300) :
    Calls Try.prog 6 #[v1, v2, v3, .int .i64 i, .int .i64 j] w fun e w' => e = .returned (.bool true) ∧ Below w.heap.size w w' := by
  have V1 := Lib.hid h1
  have V2 := Lib.hid h2
  have V3 := Lib.hid h3
  obtain ⟨a1, c1, rfl⟩ := h1.shape
  obtain ⟨a2, c2, rfl⟩ := h2.shape
  obtain ⟨a3, c3, rfl⟩ := h3.shape
  have hlen1 := h1.len
  have hlen2 := h2.len
  have hlen3 := h3.len
  have g1 : decide ((1000 : Int) < (l.length : Int)) = false := decide_eq_false (by omega)
  have g2 : decide ((300 : Int) < (a.length : Int)) = true := decide_eq_true (by omega)
  clear h1 h2 h3
  go_enter Try.func6, Try.ntmps6
  go_wp2_with (first
    | (go_at_call 9; (with_reducible refine (known10_any _).mono ?_); rintro e w1 ⟨rfl, bb⟩; have B99 := Lib.hid bb; clear bb))
  go_ret
  exact ⟨rfl, B99.out⟩
set_option maxHeartbeats 2000000 in
theorem either_long3 (v1 v2 v3 : Value) (l a b : List Int) (i j : Int) (w : World) (h1 : Ints .i32 w v1 l) (h2 : Ints .i32 w v2 a) (h3 : Ints .i32 w v3 b) (hl : l.length ≤ 1000 ∧ a.length ≤ 300 ∧ ¬ b.length ≤ 300) :
    Calls Try.prog 6 #[v1, v2, v3, .int .i64 i, .int .i64 j] w fun e w' => e = .returned (.bool true) ∧ Below w.heap.size w w' := by
  have V1 := Lib.hid h1
  have V2 := Lib.hid h2
  have V3 := Lib.hid h3
  obtain ⟨a1, c1, rfl⟩ := h1.shape
  obtain ⟨a2, c2, rfl⟩ := h2.shape
  obtain ⟨a3, c3, rfl⟩ := h3.shape
  have hlen1 := h1.len
  have hlen2 := h2.len
  have hlen3 := h3.len
  have g1 : decide ((1000 : Int) < (l.length : Int)) = false := decide_eq_false (by omega)
  have g2 : decide ((300 : Int) < (a.length : Int)) = false := decide_eq_false (by omega)
  have g3 : decide ((300 : Int) < (b.length : Int)) = true := decide_eq_true (by omega)
  clear h1 h2 h3
  go_enter Try.func6, Try.ntmps6
  go_wp2_with (first
    | (go_at_call 9; (with_reducible refine (known10_any _).mono ?_); rintro e w1 ⟨rfl, bb⟩; have B99 := Lib.hid bb; clear bb))
  go_ret
  exact ⟨rfl, B99.out⟩
set_option maxHeartbeats 2000000 in
theorem either_bad (v1 v2 v3 : Value) (l a b : List Int) (i j : Int) (w : World) (h1 : Ints .i32 w v1 l) (h2 : Ints .i32 w v2 a) (h3 : Ints .i32 w v3 b) (hl : l.length ≤ 1000 ∧ a.length ≤ 300 ∧ b.length ≤ 300) (hc : l.all code = false) :
    Calls Try.prog 6 #[v1, v2, v3, .int .i64 i, .int .i64 j] w fun e w' => e = .returned (.bool true) ∧ Below w.heap.size w w' := by
  have V1 := Lib.hid h1
  have V2 := Lib.hid h2
  have V3 := Lib.hid h3
  obtain ⟨a1, c1, rfl⟩ := h1.shape
  obtain ⟨a2, c2, rfl⟩ := h2.shape
  obtain ⟨a3, c3, rfl⟩ := h3.shape
  have hlen1 := h1.len
  have hlen2 := h2.len
  have hlen3 := h3.len
  have g1 : decide ((1000 : Int) < (l.length : Int)) = false := decide_eq_false (by omega)
  have g2 : decide ((300 : Int) < (a.length : Int)) = false := decide_eq_false (by omega)
  have g3 : decide ((300 : Int) < (b.length : Int)) = false := decide_eq_false (by omega)
  have HC := Lib.hid hc
  have HQ := Lib.hid hl
  clear h1 h2 h3
  go_enter Try.func6, Try.ntmps6
  go_wp2_with (first
    | (go_at_call 23; (with_reducible refine (rv_new (B := w.heap.size) w (Nat.le_refl _)).mono ?_); rintro e w1 ⟨rb, rfl, q1, bb⟩; have R1 := Lib.hid q1; have B1 := Lib.hid bb; clear q1 bb)
    | (go_at_call 23; (with_reducible refine (rv_new2 R1.out).mono ?_); rintro e w2 ⟨sb, rfl, q1, bb⟩; have R2 := Lib.hid q1; have B2 := Lib.hid (below_add B1.out bb B1.out.size); clear q1 bb)
    | (go_at_call 16; (with_reducible refine (r2_insE R2.out (by have := HQ.out.1; simp; omega) 0 (.slice a1 l.length c1) (V1.out.below B2.out) (insE_bad HC.out) rfl).mono ?_); rintro e w3 ⟨rfl, q1, bb⟩; have R3 := Lib.hid q1; have B3 := Lib.hid (B2.out.trans bb); clear q1 bb)
    | (go_at_call 9; (with_reducible refine (known10_any _).mono ?_); rintro e w4 ⟨rfl, bb⟩; have B99 := Lib.hid (below_add B3.out bb B3.out.size); clear bb))
  go_ret
  exact ⟨rfl, B99.out⟩
set_option maxHeartbeats 2000000 in
theorem either_i0 (v1 v2 v3 : Value) (l a b : List Int) (i j : Int) (w : World) (h1 : Ints .i32 w v1 l) (h2 : Ints .i32 w v2 a) (h3 : Ints .i32 w v3 b) (hl : l.length ≤ 1000 ∧ a.length ≤ 300 ∧ b.length ≤ 300) (hc : l.all code = true) (hx : ¬ 0 ≤ i) :
    Calls Try.prog 6 #[v1, v2, v3, .int .i64 i, .int .i64 j] w fun e w' => e = .returned (.bool true) ∧ Below w.heap.size w w' := by
  have V1 := Lib.hid h1
  have V2 := Lib.hid h2
  have V3 := Lib.hid h3
  obtain ⟨a1, c1, rfl⟩ := h1.shape
  obtain ⟨a2, c2, rfl⟩ := h2.shape
  obtain ⟨a3, c3, rfl⟩ := h3.shape
  have hlen1 := h1.len
  have hlen2 := h2.len
  have hlen3 := h3.len
  have g1 : decide ((1000 : Int) < (l.length : Int)) = false := decide_eq_false (by omega)
  have g2 : decide ((300 : Int) < (a.length : Int)) = false := decide_eq_false (by omega)
  have g3 : decide ((300 : Int) < (b.length : Int)) = false := decide_eq_false (by omega)
  have d1 : decide (i < 0) = true := decide_eq_true (by omega)
  have HC := Lib.hid hc
  have HQ := Lib.hid hl
  clear hx
  clear h1 h2 h3
  go_enter Try.func6, Try.ntmps6
  go_wp2_with (first
    | (go_at_call 23; (with_reducible refine (rv_new (B := w.heap.size) w (Nat.le_refl _)).mono ?_); rintro e w1 ⟨rb, rfl, q1, bb⟩; have R1 := Lib.hid q1; have B1 := Lib.hid bb; clear q1 bb)
    | (go_at_call 23; (with_reducible refine (rv_new2 R1.out).mono ?_); rintro e w2 ⟨sb, rfl, q1, bb⟩; have R2 := Lib.hid q1; have B2 := Lib.hid (below_add B1.out bb B1.out.size); clear q1 bb)
    | (go_at_call 16; (with_reducible refine (r2_insE R2.out (by have := HQ.out.1; simp; omega) 0 (.slice a1 l.length c1) (V1.out.below B2.out) (insE_new HC.out) (insL_new HC.out)).mono ?_); rintro e w3 ⟨rfl, q1, bb⟩; have R3 := Lib.hid q1; have B3 := Lib.hid (B2.out.trans bb); clear q1 bb)
    | (go_at_call 16; (with_reducible refine (r2_insE R3.out.swap (by have := HQ.out.1; simp; omega) 0 (.slice a1 l.length c1) (V1.out.below B3.out) (insE_new HC.out) (insL_new HC.out)).mono ?_); rintro e w4 ⟨rfl, q1, bb⟩; have R4 := Lib.hid q1.swap; have B4 := Lib.hid (B3.out.trans bb); clear q1 bb)
    | (go_at_call 9; (with_reducible refine (known10_any _).mono ?_); rintro e w5 ⟨rfl, bb⟩; have B99 := Lib.hid (below_add B4.out bb B4.out.size); clear bb))
  go_ret
  exact ⟨rfl, B99.out⟩
set_option maxHeartbeats 2000000 in
theorem either_ij (v1 v2 v3 : Value) (l a b : List Int) (i j : Int) (w : World) (h1 : Ints .i32 w v1 l) (h2 : Ints .i32 w v2 a) (h3 : Ints .i32 w v3 b) (hl : l.length ≤ 1000 ∧ a.length ≤ 300 ∧ b.length ≤ 300) (hc : l.all code = true) (hx : 0 ≤ i ∧ ¬ i ≤ j) :
    Calls Try.prog 6 #[v1, v2, v3, .int .i64 i, .int .i64 j] w fun e w' => e = .returned (.bool true) ∧ Below w.heap.size w w' := by
  have V1 := Lib.hid h1
  have V2 := Lib.hid h2
  have V3 := Lib.hid h3
  obtain ⟨a1, c1, rfl⟩ := h1.shape
  obtain ⟨a2, c2, rfl⟩ := h2.shape
  obtain ⟨a3, c3, rfl⟩ := h3.shape
  have hlen1 := h1.len
  have hlen2 := h2.len
  have hlen3 := h3.len
  have g1 : decide ((1000 : Int) < (l.length : Int)) = false := decide_eq_false (by omega)
  have g2 : decide ((300 : Int) < (a.length : Int)) = false := decide_eq_false (by omega)
  have g3 : decide ((300 : Int) < (b.length : Int)) = false := decide_eq_false (by omega)
  have d1 : decide (i < 0) = false := decide_eq_false (by omega)
  have d2 : decide (j < i) = true := decide_eq_true (by omega)
  have HC := Lib.hid hc
  have HQ := Lib.hid hl
  clear hx
  clear h1 h2 h3
  go_enter Try.func6, Try.ntmps6
  go_wp2_with (first
    | (go_at_call 23; (with_reducible refine (rv_new (B := w.heap.size) w (Nat.le_refl _)).mono ?_); rintro e w1 ⟨rb, rfl, q1, bb⟩; have R1 := Lib.hid q1; have B1 := Lib.hid bb; clear q1 bb)
    | (go_at_call 23; (with_reducible refine (rv_new2 R1.out).mono ?_); rintro e w2 ⟨sb, rfl, q1, bb⟩; have R2 := Lib.hid q1; have B2 := Lib.hid (below_add B1.out bb B1.out.size); clear q1 bb)
    | (go_at_call 16; (with_reducible refine (r2_insE R2.out (by have := HQ.out.1; simp; omega) 0 (.slice a1 l.length c1) (V1.out.below B2.out) (insE_new HC.out) (insL_new HC.out)).mono ?_); rintro e w3 ⟨rfl, q1, bb⟩; have R3 := Lib.hid q1; have B3 := Lib.hid (B2.out.trans bb); clear q1 bb)
    | (go_at_call 16; (with_reducible refine (r2_insE R3.out.swap (by have := HQ.out.1; simp; omega) 0 (.slice a1 l.length c1) (V1.out.below B3.out) (insE_new HC.out) (insL_new HC.out)).mono ?_); rintro e w4 ⟨rfl, q1, bb⟩; have R4 := Lib.hid q1.swap; have B4 := Lib.hid (B3.out.trans bb); clear q1 bb)
    | (go_at_call 9; (with_reducible refine (known10_any _).mono ?_); rintro e w5 ⟨rfl, bb⟩; have B99 := Lib.hid (below_add B4.out bb B4.out.size); clear bb))
  go_ret
  exact ⟨rfl, B99.out⟩
set_option maxHeartbeats 2000000 in
theorem either_jl (v1 v2 v3 : Value) (l a b : List Int) (i j : Int) (w : World) (h1 : Ints .i32 w v1 l) (h2 : Ints .i32 w v2 a) (h3 : Ints .i32 w v3 b) (hl : l.length ≤ 1000 ∧ a.length ≤ 300 ∧ b.length ≤ 300) (hc : l.all code = true) (hx : 0 ≤ i ∧ i ≤ j ∧ ¬ j ≤ (l.length : Nat)) :
    Calls Try.prog 6 #[v1, v2, v3, .int .i64 i, .int .i64 j] w fun e w' => e = .returned (.bool true) ∧ Below w.heap.size w w' := by
  have V1 := Lib.hid h1
  have V2 := Lib.hid h2
  have V3 := Lib.hid h3
  obtain ⟨a1, c1, rfl⟩ := h1.shape
  obtain ⟨a2, c2, rfl⟩ := h2.shape
  obtain ⟨a3, c3, rfl⟩ := h3.shape
  have hlen1 := h1.len
  have hlen2 := h2.len
  have hlen3 := h3.len
  have g1 : decide ((1000 : Int) < (l.length : Int)) = false := decide_eq_false (by omega)
  have g2 : decide ((300 : Int) < (a.length : Int)) = false := decide_eq_false (by omega)
  have g3 : decide ((300 : Int) < (b.length : Int)) = false := decide_eq_false (by omega)
  have d1 : decide (i < 0) = false := decide_eq_false (by omega)
  have d2 : decide (j < i) = false := decide_eq_false (by omega)
  have d3 : decide ((l.length : Int) < j) = true := decide_eq_true (by omega)
  have HC := Lib.hid hc
  have HQ := Lib.hid hl
  clear hx
  clear h1 h2 h3
  go_enter Try.func6, Try.ntmps6
  go_wp2_with (first
    | (go_at_call 23; (with_reducible refine (rv_new (B := w.heap.size) w (Nat.le_refl _)).mono ?_); rintro e w1 ⟨rb, rfl, q1, bb⟩; have R1 := Lib.hid q1; have B1 := Lib.hid bb; clear q1 bb)
    | (go_at_call 23; (with_reducible refine (rv_new2 R1.out).mono ?_); rintro e w2 ⟨sb, rfl, q1, bb⟩; have R2 := Lib.hid q1; have B2 := Lib.hid (below_add B1.out bb B1.out.size); clear q1 bb)
    | (go_at_call 16; (with_reducible refine (r2_insE R2.out (by have := HQ.out.1; simp; omega) 0 (.slice a1 l.length c1) (V1.out.below B2.out) (insE_new HC.out) (insL_new HC.out)).mono ?_); rintro e w3 ⟨rfl, q1, bb⟩; have R3 := Lib.hid q1; have B3 := Lib.hid (B2.out.trans bb); clear q1 bb)
    | (go_at_call 16; (with_reducible refine (r2_insE R3.out.swap (by have := HQ.out.1; simp; omega) 0 (.slice a1 l.length c1) (V1.out.below B3.out) (insE_new HC.out) (insL_new HC.out)).mono ?_); rintro e w4 ⟨rfl, q1, bb⟩; have R4 := Lib.hid q1.swap; have B4 := Lib.hid (B3.out.trans bb); clear q1 bb)
    | (go_at_call 9; (with_reducible refine (known10_any _).mono ?_); rintro e w5 ⟨rfl, bb⟩; have B99 := Lib.hid (below_add B4.out bb B4.out.size); clear bb))
  go_ret
  exact ⟨rfl, B99.out⟩
set_option maxHeartbeats 2000000 in
theorem either_bbad (v1 v2 v3 : Value) (l a b : List Int) (i j : Int) (w : World) (h1 : Ints .i32 w v1 l) (h2 : Ints .i32 w v2 a) (h3 : Ints .i32 w v3 b) (hl : l.length ≤ 1000 ∧ a.length ≤ 300 ∧ b.length ≤ 300) (hc : l.all code = true) (x1 : 0 ≤ i) (x2 : i ≤ j) (x3 : j ≤ (l.length : Nat)) (hb : b.all code = false) :
    Calls Try.prog 6 #[v1, v2, v3, .int .i64 i, .int .i64 j] w fun e w' => e = .returned (.bool true) ∧ Below w.heap.size w w' := by
  have V1 := Lib.hid h1
  have V2 := Lib.hid h2
  have V3 := Lib.hid h3
  obtain ⟨a1, c1, rfl⟩ := h1.shape
  obtain ⟨a2, c2, rfl⟩ := h2.shape
  obtain ⟨a3, c3, rfl⟩ := h3.shape
  have hlen1 := h1.len
  have hlen2 := h2.len
  have hlen3 := h3.len
  have g1 : decide ((1000 : Int) < (l.length : Int)) = false := decide_eq_false (by omega)
  have g2 : decide ((300 : Int) < (a.length : Int)) = false := decide_eq_false (by omega)
  have g3 : decide ((300 : Int) < (b.length : Int)) = false := decide_eq_false (by omega)
  have d1 : decide (i < 0) = false := decide_eq_false (by omega)
  have d2 : decide (j < i) = false := decide_eq_false (by omega)
  have d3 : decide ((l.length : Int) < j) = false := decide_eq_false (by omega)
  have HC := Lib.hid hc
  have HCB := Lib.hid hb
  have HQ := Lib.hid hl
  clear x1 x2 x3
  clear h1 h2 h3
  go_enter Try.func6, Try.ntmps6
  go_wp2_with (first
    | (go_at_call 23; (with_reducible refine (rv_new (B := w.heap.size) w (Nat.le_refl _)).mono ?_); rintro e w1 ⟨rb, rfl, q1, bb⟩; have R1 := Lib.hid q1; have B1 := Lib.hid bb; clear q1 bb)
    | (go_at_call 23; (with_reducible refine (rv_new2 R1.out).mono ?_); rintro e w2 ⟨sb, rfl, q1, bb⟩; have R2 := Lib.hid q1; have B2 := Lib.hid (below_add B1.out bb B1.out.size); clear q1 bb)
    | (go_at_call 16; (with_reducible refine (r2_insE R2.out (by have := HQ.out.1; simp; omega) 0 (.slice a1 l.length c1) (V1.out.below B2.out) (insE_new HC.out) (insL_new HC.out)).mono ?_); rintro e w3 ⟨rfl, q1, bb⟩; have R3 := Lib.hid q1; have B3 := Lib.hid (B2.out.trans bb); clear q1 bb)
    | (go_at_call 16; (with_reducible refine (r2_insE R3.out.swap (by have := HQ.out.1; simp; omega) 0 (.slice a1 l.length c1) (V1.out.below B3.out) (insE_new HC.out) (insL_new HC.out)).mono ?_); rintro e w4 ⟨rfl, q1, bb⟩; have R4 := Lib.hid q1.swap; have B4 := Lib.hid (B3.out.trans bb); clear q1 bb)
    | (go_at_call 16; (with_reducible refine (r2_insE R4.out (by have := HQ.out; omega) j (.slice a3 b.length c3) (V3.out.below B4.out) (insE_bad HCB.out) rfl).mono ?_); rintro e w5 ⟨rfl, q1, bb⟩; have R5 := Lib.hid q1; have B5 := Lib.hid (B4.out.trans bb); clear q1 bb)
    | (go_at_call 9; (with_reducible refine (known10_any _).mono ?_); rintro e w6 ⟨rfl, bb⟩; have B99 := Lib.hid (below_add B5.out bb B5.out.size); clear bb))
  go_ret
  exact ⟨rfl, B99.out⟩
set_option maxHeartbeats 2000000 in
theorem either_abad (v1 v2 v3 : Value) (l a b : List Int) (i j : Int) (w : World) (h1 : Ints .i32 w v1 l) (h2 : Ints .i32 w v2 a) (h3 : Ints .i32 w v3 b) (hl : l.length ≤ 1000 ∧ a.length ≤ 300 ∧ b.length ≤ 300) (hc : l.all code = true) (x1 : 0 ≤ i) (x2 : i ≤ j) (x3 : j ≤ (l.length : Nat)) (hb : b.all code = true) (ha : a.all code = false) :
    Calls Try.prog 6 #[v1, v2, v3, .int .i64 i, .int .i64 j] w fun e w' => e = .returned (.bool true) ∧ Below w.heap.size w w' := by
  have V1 := Lib.hid h1
  have V2 := Lib.hid h2
  have V3 := Lib.hid h3
  obtain ⟨a1, c1, rfl⟩ := h1.shape
  obtain ⟨a2, c2, rfl⟩ := h2.shape
  obtain ⟨a3, c3, rfl⟩ := h3.shape
  have hlen1 := h1.len
  have hlen2 := h2.len
  have hlen3 := h3.len
  have g1 : decide ((1000 : Int) < (l.length : Int)) = false := decide_eq_false (by omega)
  have g2 : decide ((300 : Int) < (a.length : Int)) = false := decide_eq_false (by omega)
  have g3 : decide ((300 : Int) < (b.length : Int)) = false := decide_eq_false (by omega)
  have d1 : decide (i < 0) = false := decide_eq_false (by omega)
  have d2 : decide (j < i) = false := decide_eq_false (by omega)
  have d3 : decide ((l.length : Int) < j) = false := decide_eq_false (by omega)
  have HC := Lib.hid hc
  have HCA := Lib.hid ha
  have E1 := Lib.hid (insE_ok hb (Int.le_trans x1 x2) x3)
  have HQ := Lib.hid hl
  clear x1 x2 x3
  clear h1 h2 h3
  go_enter Try.func6, Try.ntmps6
  go_wp2_with (first
    | (go_at_call 23; (with_reducible refine (rv_new (B := w.heap.size) w (Nat.le_refl _)).mono ?_); rintro e w1 ⟨rb, rfl, q1, bb⟩; have R1 := Lib.hid q1; have B1 := Lib.hid bb; clear q1 bb)
    | (go_at_call 23; (with_reducible refine (rv_new2 R1.out).mono ?_); rintro e w2 ⟨sb, rfl, q1, bb⟩; have R2 := Lib.hid q1; have B2 := Lib.hid (below_add B1.out bb B1.out.size); clear q1 bb)
    | (go_at_call 16; (with_reducible refine (r2_insE R2.out (by have := HQ.out.1; simp; omega) 0 (.slice a1 l.length c1) (V1.out.below B2.out) (insE_new HC.out) (insL_new HC.out)).mono ?_); rintro e w3 ⟨rfl, q1, bb⟩; have R3 := Lib.hid q1; have B3 := Lib.hid (B2.out.trans bb); clear q1 bb)
    | (go_at_call 16; (with_reducible refine (r2_insE R3.out.swap (by have := HQ.out.1; simp; omega) 0 (.slice a1 l.length c1) (V1.out.below B3.out) (insE_new HC.out) (insL_new HC.out)).mono ?_); rintro e w4 ⟨rfl, q1, bb⟩; have R4 := Lib.hid q1.swap; have B4 := Lib.hid (B3.out.trans bb); clear q1 bb)
    | (go_at_call 16; (with_reducible refine (r2_insE R4.out (by have := HQ.out; omega) j (.slice a3 b.length c3) (V3.out.below B4.out) E1.out rfl).mono ?_); rintro e w5 ⟨rfl, q1, bb⟩; have R5 := Lib.hid q1; have B5 := Lib.hid (B4.out.trans bb); clear q1 bb)
    | (go_at_call 16; (with_reducible refine (r2_insE R5.out (by have := HQ.out; have := insL_len l b j; omega) i (.slice a2 a.length c2) (V2.out.below B5.out) (insE_bad HCA.out) rfl).mono ?_); rintro e w6 ⟨rfl, q1, bb⟩; have R6 := Lib.hid q1; have B6 := Lib.hid (B5.out.trans bb); clear q1 bb)
    | (go_at_call 9; (with_reducible refine (known10_any _).mono ?_); rintro e w7 ⟨rfl, bb⟩; have B99 := Lib.hid (below_add B6.out bb B6.out.size); clear bb))
  go_ret
  exact ⟨rfl, B99.out⟩
set_option maxHeartbeats 2000000 in
theorem either_good (v1 v2 v3 : Value) (l a b : List Int) (i j : Int) (w : World) (h1 : Ints .i32 w v1 l) (h2 : Ints .i32 w v2 a) (h3 : Ints .i32 w v3 b) (hl : l.length ≤ 1000 ∧ a.length ≤ 300 ∧ b.length ≤ 300) (hc : l.all code = true) (x1 : 0 ≤ i) (x2 : i ≤ j) (x3 : j ≤ (l.length : Nat)) (ha : a.all code = true) (hb : b.all code = true) :
    Calls Try.prog 6 #[v1, v2, v3, .int .i64 i, .int .i64 j] w fun e w' => e = .returned (.bool true) ∧ Below w.heap.size w w' := by
  have V1 := Lib.hid h1
  have V2 := Lib.hid h2
  have V3 := Lib.hid h3
  obtain ⟨a1, c1, rfl⟩ := h1.shape
  obtain ⟨a2, c2, rfl⟩ := h2.shape
  obtain ⟨a3, c3, rfl⟩ := h3.shape
  have hlen1 := h1.len
  have hlen2 := h2.len
  have hlen3 := h3.len
  obtain ⟨LF, q1, q2, q3, q4, q5, q6, q7⟩ := either_facts l a b i j hc ha hb x1 x2 x3
  have g1 : decide ((1000 : Int) < (l.length : Int)) = false := decide_eq_false (by omega)
  have g2 : decide ((300 : Int) < (a.length : Int)) = false := decide_eq_false (by omega)
  have g3 : decide ((300 : Int) < (b.length : Int)) = false := decide_eq_false (by omega)
  have d1 : decide (i < 0) = false := decide_eq_false (by omega)
  have d2 : decide (j < i) = false := decide_eq_false (by omega)
  have d3 : decide ((l.length : Int) < j) = false := decide_eq_false (by omega)
  have HC := Lib.hid hc
  have HQ0 := Lib.hid (show ([] : List Int).length + l.length + 64 ≤ 400000 by simp; omega)
  have HQ1 := Lib.hid (show l.length + b.length + 64 ≤ 400000 ∧ (insL l b j).length + a.length + 64 ≤ 400000 ∧ l.length + a.length + 64 ≤ 400000 ∧ (insL l a i).length + b.length + 64 ≤ 400000 by have := insL_len l b j; have := insL_len l a i; omega)
  have HQ2 := Lib.hid (show LF.length ≤ 400000 by omega)
  have u1 : 0 ≤ j + ((a.length : Nat) : Int) := by omega
  have u2 : j + ((a.length : Nat) : Int) ≤ 2000 := by omega
  obtain ⟨n1, hn1⟩ : ∃ n, l.length = n := ⟨_, rfl⟩
  obtain ⟨n2, hn2⟩ : ∃ n, a.length = n := ⟨_, rfl⟩
  obtain ⟨n3, hn3⟩ : ∃ n, b.length = n := ⟨_, rfl⟩
  obtain ⟨nf, hnf⟩ : ∃ n, LF.length = n := ⟨_, rfl⟩
  rw [hn2] at q4 q6
  have E1 := Lib.hid q1
  have E2 := Lib.hid q2
  have E3 := Lib.hid q3
  have E4 := Lib.hid q4
  have E5 := Lib.hid q5
  have E6 := Lib.hid q6
  have E7 := Lib.hid hnf
  obtain ⟨nn, hnn⟩ : ∃ n, nl LF = n := ⟨_, rfl⟩
  have E8 := Lib.hid hnn
  rw [hn1] at V1 hlen1 g1 d3 h1 ⊢
  rw [hn2] at V2 hlen2 g2 u1 u2 h2 ⊢
  rw [hn3] at V3 hlen3 g3 h3 ⊢
  clear q1 q2 q3 q4 q5 q6 q7 hnf hnn x1 x2 x3 hl hc ha hb hn1 hn2 hn3
  clear h1 h2 h3
  go_enter Try.func6, Try.ntmps6
  go_wp2_with (first
    | (go_at_call 23; (with_reducible refine (rv_new (B := w.heap.size) w (Nat.le_refl _)).mono ?_); rintro e w1 ⟨rb, rfl, q1, bb⟩; have R1 := Lib.hid q1; have B1 := Lib.hid bb; clear q1 bb)
    | (go_at_call 23; (with_reducible refine (rv_new2 R1.out).mono ?_); rintro e w2 ⟨sb, rfl, q1, bb⟩; have R2 := Lib.hid q1; have B2 := Lib.hid (below_add B1.out bb B1.out.size); clear q1 bb)
    | (go_at_call 16; (with_reducible refine (r2_insE R2.out HQ0.out 0 (.slice a1 n1 c1) (V1.out.below B2.out) (insE_new HC.out) (insL_new HC.out)).mono ?_); rintro e w3 ⟨rfl, q1, bb⟩; have R3 := Lib.hid q1; have B3 := Lib.hid (B2.out.trans bb); clear q1 bb)
    | (go_at_call 16; (with_reducible refine (r2_insE R3.out.swap HQ0.out 0 (.slice a1 n1 c1) (V1.out.below B3.out) (insE_new HC.out) (insL_new HC.out)).mono ?_); rintro e w4 ⟨rfl, q1, bb⟩; have R4 := Lib.hid q1.swap; have B4 := Lib.hid (B3.out.trans bb); clear q1 bb)
    | (go_at_call 16; (with_reducible refine (r2_insE R4.out HQ1.out.1 j (.slice a3 n3 c3) (V3.out.below B4.out) E1.out rfl).mono ?_); rintro e w5 ⟨rfl, q1, bb⟩; have R5 := Lib.hid q1; have B5 := Lib.hid (B4.out.trans bb); clear q1 bb)
    | (go_at_call 16; (with_reducible refine (r2_insE R5.out HQ1.out.2.1 i (.slice a2 n2 c2) (V2.out.below B5.out) E2.out E5.out).mono ?_); rintro e w6 ⟨rfl, q1, bb⟩; have R6 := Lib.hid q1; have B6 := Lib.hid (B5.out.trans bb); clear q1 bb)
    | (go_at_call 16; (with_reducible refine (r2_insE R6.out.swap HQ1.out.2.2.1 i (.slice a2 n2 c2) (V2.out.below B6.out) E3.out rfl).mono ?_); rintro e w7 ⟨rfl, q1, bb⟩; have R7 := Lib.hid q1.swap; have B7 := Lib.hid (B6.out.trans bb); clear q1 bb)
    | (go_at_call 16; (with_reducible refine (r2_insE R7.out.swap HQ1.out.2.2.2 (j + (n2 : Nat)) (.slice a3 n3 c3) (V3.out.below B7.out) E4.out E6.out).mono ?_); rintro e w8 ⟨rfl, q1, bb⟩; have R8 := Lib.hid q1.swap; have B8 := Lib.hid (B7.out.trans bb); clear q1 bb)
    | (go_at_call 19; (with_reducible refine (rv_lenN R8.out.fst E7.out).mono ?_); rintro e w9 ⟨rfl, bb⟩; have R9 := Lib.hid (R8.out.below bb); have B9 := Lib.hid (below_add B8.out bb B8.out.size); clear bb)
    | (go_at_call 11; (with_reducible refine (rv_all R9.out.fst HQ2.out E7.out).mono ?_); rintro e w10 ⟨v8, rfl, hv, bb⟩; obtain ⟨xa, xc, hxx⟩ := hv.shape; rw [E7.out] at hxx; subst hxx; have V8 := Lib.hid hv; clear hv; have R10 := Lib.hid (R9.out.below bb); have B10 := Lib.hid (below_add B9.out bb B9.out.size); clear bb)
    | (go_at_call 19; (with_reducible refine (rv_lenN R10.out.snd E7.out).mono ?_); rintro e w11 ⟨rfl, bb⟩; have V8 := Lib.hid (V8.out.below bb); have R11 := Lib.hid (R10.out.below bb); have B11 := Lib.hid (below_add B10.out bb B10.out.size); clear bb)
    | (go_at_call 11; (with_reducible refine (rv_all R11.out.snd HQ2.out E7.out).mono ?_); rintro e w12 ⟨v9, rfl, hv, bb⟩; obtain ⟨ya, yc, hyy⟩ := hv.shape; rw [E7.out] at hyy; subst hyy; have V9 := Lib.hid hv; have V8 := Lib.hid (V8.out.below bb); clear hv; have R12 := Lib.hid (R11.out.below bb); have B12 := Lib.hid (below_add B11.out bb B11.out.size); clear bb)
    | (go_at_call 24; (with_reducible refine (same9_self _ _ _ _ rfl _ V8.out V9.out).mono ?_); rintro e w13 ⟨rfl, bb⟩; have R13 := Lib.hid (R12.out.below bb); have B13 := Lib.hid (below_add B12.out bb B12.out.size); clear bb)
    | (go_at_call 20; (with_reducible refine (rv_nlN R13.out.fst E8.out).mono ?_); rintro e w14 ⟨rfl, bb⟩; have R14 := Lib.hid (R13.out.below bb); have B14 := Lib.hid (below_add B13.out bb B13.out.size); clear bb)
    | (go_at_call 20; (with_reducible refine (rv_nlN R14.out.snd E8.out).mono ?_); rintro e w15 ⟨rfl, bb⟩; have R15 := Lib.hid (R14.out.below bb); have B15 := Lib.hid (below_add B14.out bb B14.out.size); clear bb)
    | (go_at_call 9; (with_reducible refine (known10_any _).mono ?_); rintro e w16 ⟨rfl, bb⟩; have B99 := Lib.hid (below_add B15.out bb B15.out.size); clear bb))
  go_ret
  exact ⟨rfl, B99.out⟩
theorem either_walk (v1 v2 v3 : Value) (l a b : List Int) (i j : Int) (w : World) (h1 : Ints .i32 w v1 l) (h2 : Ints .i32 w v2 a) (h3 : Ints .i32 w v3 b) :
    Calls Try.prog 6 #[v1, v2, v3, .int .i64 i, .int .i64 j] w fun e w' => e = .returned (.bool true) ∧ Below w.heap.size w w' := by
  by_cases l1 : l.length ≤ 1000
  · by_cases l2 : a.length ≤ 300
    · by_cases l3 : b.length ≤ 300
      · have hl := And.intro l1 (And.intro l2 l3)
        cases hc : l.all code with
        | false => exact either_bad v1 v2 v3 l a b i j w h1 h2 h3 hl hc
        | true =>
          by_cases x1 : 0 ≤ i
          · by_cases x2 : i ≤ j
            · by_cases x3 : j ≤ (l.length : Nat)
              · cases hb : b.all code with
                | false => exact either_bbad v1 v2 v3 l a b i j w h1 h2 h3 hl hc x1 x2 x3 hb
                | true =>
                  cases ha : a.all code with
                  | false => exact either_abad v1 v2 v3 l a b i j w h1 h2 h3 hl hc x1 x2 x3 hb ha
                  | true => exact either_good v1 v2 v3 l a b i j w h1 h2 h3 hl hc x1 x2 x3 ha hb
              · exact either_jl v1 v2 v3 l a b i j w h1 h2 h3 hl hc ⟨x1, x2, x3⟩
            · exact either_ij v1 v2 v3 l a b i j w h1 h2 h3 hl hc ⟨x1, x2⟩
          · exact either_i0 v1 v2 v3 l a b i j w h1 h2 h3 hl hc x1
      · exact either_long3 v1 v2 v3 l a b i j w h1 h2 h3 ⟨l1, l2, l3⟩
    · exact either_long2 v1 v2 v3 l a b i j w h1 h2 h3 ⟨l1, l2⟩
  · exact either_long1 v1 v2 v3 l a b i j w h1 h2 h3 l1
end Go.Proofs.Ytjgfgpkaeddjhaa
