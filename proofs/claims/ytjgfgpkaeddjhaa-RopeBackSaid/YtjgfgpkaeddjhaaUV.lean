
import Derived.Test.YtjgfgpkaeddjhaaUS
/- UV: RopeParts -/
namespace Go.Proofs.Ytjgfgpkaeddjhaa
open Go.RowKit
set_option linter.unusedVariables false
set_option maxRecDepth 100000
/-- append(out, src...) at one operation: out the call's own, src whatever slice of integers, nil too. -/
theorem wp_append_ints {P : Program} {w : World} {o : Oper} {a : Act} {K : Act → World → Prop} {Q : Exit → Act → World → Prop} (s x : Operand) (t : TypeId)
    (ho : o.op = .call { callee := .builtin .append, args := #[s, x], argTypes := #[t, t] })
    (base : Nat) (e : TypeId) (i : TypeInfo) (z : Value) (bytes : Nat) (ht : P.underlying t = some (.slice e)) (hi : P.info? e = some i) (hz : i.zero = some z)
    (hsize : i.size = 1) (hby : i.bytes = bytes) (hzs : z.cells.size = 1)
    (v : Value) (n : Nat) (cs : List Value) (hs : a.eval s = v) (hown : w.ownsRow base e 1 v n cs)
    (u : Value) (k : IntKind) (ys : List Int) (hx : a.eval x = u) (hu : Ints k w u ys)
    (h63 : n + ys.length ≤ maxLen) (hbytes : (n + ys.length) * bytes ≤ 140737488355328) (hbase : base ≤ w.heap.size)
    (h : ∀ v' w', w'.ownsRow base e 1 v' (n + ys.length) (cs ++ ys.map (Value.int k)) → w.grownBy w' v.ownBlock → K (a.put o.dst v') w') : o.wp P a w K Q := by
  rcases hu with ⟨ad, cap, rfl, rfl, hm, hc0⟩ | ⟨b, off, cap, rfl, h0, h1, hm, hc⟩
  · cases ad with
    | none =>
      obtain rfl := hc0 rfl
      have hrun := run_append_owned_none (P := P) (w := w) base t o.type e i 1 ht hi v n cs hown
      unfold Oper.wp
      simp [execOp, ho, resolve, invoke, builtin, hs, hx, hrun, Result.andThen]
      exact h v w (by simpa using hown) (grown_refl _ _)
    | some ad =>
      exact wp_append_own w s x t ho base e i z 1 bytes ht hi hz hsize hby hzs (by decide) v n cs hs hown ad 0 cap [] hx rfl (by intro j u hj; simp at hj) (by intro u hu; cases hu) h63 hbytes hbase (fun v' w' q1 q2 _ => h v' w' (by simpa using q1) q2)
  · refine wp_append_own w s x t ho base e i z 1 bytes ht hi hz hsize hby hzs (by decide) v n cs hs hown ⟨b, off, none⟩ ys.length cap (ys.map (Value.int k)) hx (by simp) ?_ (ints_cells _) h63 hbytes hbase (fun v' w' q1 q2 _ => h v' w' q1 q2)
    intro j u hj
    have hjl : j < ys.length := by
      have := (List.getElem?_eq_some_iff.1 hj).1
      simpa using this
    rw [Go.WideShapes.add_plain, hc j hjl]
    simp [List.getD, hjl] at hj ⊢
    exact hj

/-- The same, whatever guards it. -/
theorem wpList_append_intsG {P : Program} {w : World} {ops : Array Oper} {rest : List Oper} {o : Oper} {a : Act} {Q : Exit → Act → World → Prop} (hw : Region.wanted o (yielded ops a.tmps) = true) (s x : Operand) (t : TypeId)
    (ho : o.op = .call { callee := .builtin .append, args := #[s, x], argTypes := #[t, t] })
    (base : Nat) (e : TypeId) (i : TypeInfo) (z : Value) (bytes : Nat) (ht : P.underlying t = some (.slice e)) (hi : P.info? e = some i) (hz : i.zero = some z)
    (hsize : i.size = 1) (hby : i.bytes = bytes) (hzs : z.cells.size = 1)
    (v : Value) (n : Nat) (cs : List Value) (hs : a.eval s = v) (hown : w.ownsRow base e 1 v n cs)
    (u : Value) (k : IntKind) (ys : List Int) (hx : a.eval x = u) (hu : Ints k w u ys)
    (h63 : n + ys.length ≤ maxLen) (hbytes : (n + ys.length) * bytes ≤ 140737488355328) (hbase : base ≤ w.heap.size)
    (h : ∀ v' w', w'.ownsRow base e 1 v' (n + ys.length) (cs ++ ys.map (Value.int k)) → w.grownBy w' v.ownBlock → wpList P ops Q rest (a.put o.dst v') w') : wpList P ops Q (o :: rest) a w :=
  wpList_step fun K hK => by
    rw [if_pos hw]
    exact (wp_append_ints s x t ho base e i z bytes ht hi hz hsize hby hzs v n cs hs hown u k ys hx hu h63 hbytes hbase (fun v' w' q1 q2 => hK _ _ (h v' w' q1 q2)))
theorem nl_one (r : Int) : nl [r] = if r = 10 then 1 else 0 := by
  unfold nl
  by_cases h : r = 10 <;> simp [h]
theorem nl_step {l : List Int} {k : Nat} (hk : k < l.length) : nl (l.take (k + 1)) = nl (l.take k) + (if l.getD k 0 = 10 then 1 else 0) := by
  rw [take_snoc l k hk, nl_app, nl_one]
theorem parts_facts (l : List Int) (i j k : Int) (h1 : 0 ≤ i) (h2 : i ≤ j) (h3 : j ≤ k) (h4 : k ≤ (l.length : Nat)) : ∃ A C : List Int, (l.take j.toNat).drop i.toNat = A ∧ (l.take k.toNat).drop j.toNat = C ∧ (l.take k.toNat).drop i.toNat = A ++ C ∧
    (nl (A ++ C) : Int) = (nl (l.take k.toNat) : Int) - (nl (l.take i.toNat) : Int) ∧ A.length + C.length ≤ l.length := by
  have e1 : (l.take k.toNat).take j.toNat = l.take j.toNat := by rw [List.take_take, Nat.min_eq_left (by omega)]
  have e3 : (l.take k.toNat).take i.toNat = l.take i.toNat := by rw [List.take_take, Nat.min_eq_left (by omega)]
  have e2 : (l.take k.toNat).drop i.toNat = (l.take j.toNat).drop i.toNat ++ (l.take k.toNat).drop j.toNat := by
    have h := List.take_append_drop j.toNat (l.take k.toNat)
    rw [e1] at h
    conv => lhs; rw [← h]
    rw [List.drop_append_of_le_length (by rw [List.length_take]; omega)]
  refine ⟨_, _, rfl, rfl, e2, ?_, ?_⟩
  · rw [← e2]
    have h := List.take_append_drop i.toNat (l.take k.toNat)
    rw [e3] at h
    have : nl (l.take k.toNat) = nl (l.take i.toNat) + nl ((l.take k.toNat).drop i.toNat) := by
      conv => lhs; rw [← h]
      rw [nl_app]
    omega
  · simp only [List.length_drop, List.length_take]
    omega
set_option maxHeartbeats 2000000 in
theorem parts_long (v1 : Value) (l : List Int) (i j k : Int) (w : World) (h1 : Ints .i32 w v1 l) (hl : ¬ l.length ≤ 2000) :
    Calls Try.prog 7 #[v1, .int .i64 i, .int .i64 j, .int .i64 k] w fun e w' => e = .returned (.bool true) ∧ Below w.heap.size w w' := by
  have V1 := Lib.hid h1
  obtain ⟨a1, c1, rfl⟩ := h1.shape
  have hlen1 := h1.len
  have g1 : decide ((2000 : Int) < (l.length : Int)) = true := decide_eq_true (by omega)
  clear h1
  go_enter Try.func7, Try.ntmps7
  go_wp2_with (first
    | (go_at_call 9; (with_reducible refine (known10_any _).mono ?_); rintro e w1 ⟨rfl, bb⟩; have B99 := Lib.hid bb; clear bb))
  go_ret
  exact ⟨rfl, B99.out⟩
set_option maxHeartbeats 2000000 in
theorem parts_bad (v1 : Value) (l : List Int) (i j k : Int) (w : World) (h1 : Ints .i32 w v1 l) (hl : l.length ≤ 2000) (hc : l.all code = false) :
    Calls Try.prog 7 #[v1, .int .i64 i, .int .i64 j, .int .i64 k] w fun e w' => e = .returned (.bool true) ∧ Below w.heap.size w w' := by
  have V1 := Lib.hid h1
  obtain ⟨a1, c1, rfl⟩ := h1.shape
  have hlen1 := h1.len
  have g1 : decide ((2000 : Int) < (l.length : Int)) = false := decide_eq_false (by omega)
  have HC := Lib.hid hc
  have HQ := Lib.hid hl
  clear h1
  go_enter Try.func7, Try.ntmps7
  go_wp2_with (first
    | (go_at_call 23; (with_reducible refine (rv_new (B := w.heap.size) w (Nat.le_refl _)).mono ?_); rintro e w1 ⟨rb, rfl, q1, bb⟩; have R1 := Lib.hid q1; have B1 := Lib.hid bb; clear q1 bb)
    | (go_at_call 16; (with_reducible refine (rv_insE R1.out (by have := HQ.out; simp; omega) 0 (.slice a1 l.length c1) (V1.out.below B1.out) (insE_bad HC.out) rfl).mono ?_); rintro e w2 ⟨rfl, q1, bb⟩; have R2 := Lib.hid q1; have B2 := Lib.hid (B1.out.trans bb); clear q1 bb)
    | (go_at_call 9; (with_reducible refine (known10_any _).mono ?_); rintro e w3 ⟨rfl, bb⟩; have B99 := Lib.hid (below_add B2.out bb B2.out.size); clear bb))
  go_ret
  exact ⟨rfl, B99.out⟩
set_option maxHeartbeats 2000000 in
theorem parts_i0 (v1 : Value) (l : List Int) (i j k : Int) (w : World) (h1 : Ints .i32 w v1 l) (hl : l.length ≤ 2000) (hc : l.all code = true) (hx : ¬ 0 ≤ i) :
    Calls Try.prog 7 #[v1, .int .i64 i, .int .i64 j, .int .i64 k] w fun e w' => e = .returned (.bool true) ∧ Below w.heap.size w w' := by
  have V1 := Lib.hid h1
  obtain ⟨a1, c1, rfl⟩ := h1.shape
  have hlen1 := h1.len
  have g1 : decide ((2000 : Int) < (l.length : Int)) = false := decide_eq_false (by omega)
  have d1 : decide (i < 0) = true := decide_eq_true (by omega)
  have HC := Lib.hid hc
  have HQ := Lib.hid hl
  clear hx
  clear h1
  go_enter Try.func7, Try.ntmps7
  go_wp2_with (first
    | (go_at_call 23; (with_reducible refine (rv_new (B := w.heap.size) w (Nat.le_refl _)).mono ?_); rintro e w1 ⟨rb, rfl, q1, bb⟩; have R1 := Lib.hid q1; have B1 := Lib.hid bb; clear q1 bb)
    | (go_at_call 16; (with_reducible refine (rv_insE R1.out (by have := HQ.out; simp; omega) 0 (.slice a1 l.length c1) (V1.out.below B1.out) (insE_new HC.out) (insL_new HC.out)).mono ?_); rintro e w2 ⟨rfl, q1, bb⟩; have R2 := Lib.hid q1; have B2 := Lib.hid (B1.out.trans bb); clear q1 bb)
    | (go_at_call 9; (with_reducible refine (known10_any _).mono ?_); rintro e w3 ⟨rfl, bb⟩; have B99 := Lib.hid (below_add B2.out bb B2.out.size); clear bb))
  go_ret
  exact ⟨rfl, B99.out⟩
set_option maxHeartbeats 2000000 in
theorem parts_ij (v1 : Value) (l : List Int) (i j k : Int) (w : World) (h1 : Ints .i32 w v1 l) (hl : l.length ≤ 2000) (hc : l.all code = true) (hx : 0 ≤ i ∧ ¬ i ≤ j) :
    Calls Try.prog 7 #[v1, .int .i64 i, .int .i64 j, .int .i64 k] w fun e w' => e = .returned (.bool true) ∧ Below w.heap.size w w' := by
  have V1 := Lib.hid h1
  obtain ⟨a1, c1, rfl⟩ := h1.shape
  have hlen1 := h1.len
  have g1 : decide ((2000 : Int) < (l.length : Int)) = false := decide_eq_false (by omega)
  have d1 : decide (i < 0) = false := decide_eq_false (by omega)
  have d2 : decide (j < i) = true := decide_eq_true (by omega)
  have HC := Lib.hid hc
  have HQ := Lib.hid hl
  clear hx
  clear h1
  go_enter Try.func7, Try.ntmps7
  go_wp2_with (first
    | (go_at_call 23; (with_reducible refine (rv_new (B := w.heap.size) w (Nat.le_refl _)).mono ?_); rintro e w1 ⟨rb, rfl, q1, bb⟩; have R1 := Lib.hid q1; have B1 := Lib.hid bb; clear q1 bb)
    | (go_at_call 16; (with_reducible refine (rv_insE R1.out (by have := HQ.out; simp; omega) 0 (.slice a1 l.length c1) (V1.out.below B1.out) (insE_new HC.out) (insL_new HC.out)).mono ?_); rintro e w2 ⟨rfl, q1, bb⟩; have R2 := Lib.hid q1; have B2 := Lib.hid (B1.out.trans bb); clear q1 bb)
    | (go_at_call 9; (with_reducible refine (known10_any _).mono ?_); rintro e w3 ⟨rfl, bb⟩; have B99 := Lib.hid (below_add B2.out bb B2.out.size); clear bb))
  go_ret
  exact ⟨rfl, B99.out⟩
set_option maxHeartbeats 2000000 in
theorem parts_jk (v1 : Value) (l : List Int) (i j k : Int) (w : World) (h1 : Ints .i32 w v1 l) (hl : l.length ≤ 2000) (hc : l.all code = true) (hx : 0 ≤ i ∧ i ≤ j ∧ ¬ j ≤ k) :
    Calls Try.prog 7 #[v1, .int .i64 i, .int .i64 j, .int .i64 k] w fun e w' => e = .returned (.bool true) ∧ Below w.heap.size w w' := by
  have V1 := Lib.hid h1
  obtain ⟨a1, c1, rfl⟩ := h1.shape
  have hlen1 := h1.len
  have g1 : decide ((2000 : Int) < (l.length : Int)) = false := decide_eq_false (by omega)
  have d1 : decide (i < 0) = false := decide_eq_false (by omega)
  have d2 : decide (j < i) = false := decide_eq_false (by omega)
  have d3 : decide (k < j) = true := decide_eq_true (by omega)
  have HC := Lib.hid hc
  have HQ := Lib.hid hl
  clear hx
  clear h1
  go_enter Try.func7, Try.ntmps7
  go_wp2_with (first
    | (go_at_call 23; (with_reducible refine (rv_new (B := w.heap.size) w (Nat.le_refl _)).mono ?_); rintro e w1 ⟨rb, rfl, q1, bb⟩; have R1 := Lib.hid q1; have B1 := Lib.hid bb; clear q1 bb)
    | (go_at_call 16; (with_reducible refine (rv_insE R1.out (by have := HQ.out; simp; omega) 0 (.slice a1 l.length c1) (V1.out.below B1.out) (insE_new HC.out) (insL_new HC.out)).mono ?_); rintro e w2 ⟨rfl, q1, bb⟩; have R2 := Lib.hid q1; have B2 := Lib.hid (B1.out.trans bb); clear q1 bb)
    | (go_at_call 9; (with_reducible refine (known10_any _).mono ?_); rintro e w3 ⟨rfl, bb⟩; have B99 := Lib.hid (below_add B2.out bb B2.out.size); clear bb))
  go_ret
  exact ⟨rfl, B99.out⟩
set_option maxHeartbeats 2000000 in
theorem parts_kl (v1 : Value) (l : List Int) (i j k : Int) (w : World) (h1 : Ints .i32 w v1 l) (hl : l.length ≤ 2000) (hc : l.all code = true) (hx : 0 ≤ i ∧ i ≤ j ∧ j ≤ k ∧ ¬ k ≤ (l.length : Nat)) :
    Calls Try.prog 7 #[v1, .int .i64 i, .int .i64 j, .int .i64 k] w fun e w' => e = .returned (.bool true) ∧ Below w.heap.size w w' := by
  have V1 := Lib.hid h1
  obtain ⟨a1, c1, rfl⟩ := h1.shape
  have hlen1 := h1.len
  have g1 : decide ((2000 : Int) < (l.length : Int)) = false := decide_eq_false (by omega)
  have d1 : decide (i < 0) = false := decide_eq_false (by omega)
  have d2 : decide (j < i) = false := decide_eq_false (by omega)
  have d3 : decide (k < j) = false := decide_eq_false (by omega)
  have d4 : decide ((l.length : Int) < k) = true := decide_eq_true (by omega)
  have HC := Lib.hid hc
  have HQ := Lib.hid hl
  clear hx
  clear h1
  go_enter Try.func7, Try.ntmps7
  go_wp2_with (first
    | (go_at_call 23; (with_reducible refine (rv_new (B := w.heap.size) w (Nat.le_refl _)).mono ?_); rintro e w1 ⟨rb, rfl, q1, bb⟩; have R1 := Lib.hid q1; have B1 := Lib.hid bb; clear q1 bb)
    | (go_at_call 16; (with_reducible refine (rv_insE R1.out (by have := HQ.out; simp; omega) 0 (.slice a1 l.length c1) (V1.out.below B1.out) (insE_new HC.out) (insL_new HC.out)).mono ?_); rintro e w2 ⟨rfl, q1, bb⟩; have R2 := Lib.hid q1; have B2 := Lib.hid (B1.out.trans bb); clear q1 bb)
    | (go_at_call 9; (with_reducible refine (known10_any _).mono ?_); rintro e w3 ⟨rfl, bb⟩; have B99 := Lib.hid (below_add B2.out bb B2.out.size); clear bb))
  go_ret
  exact ⟨rfl, B99.out⟩
set_option maxHeartbeats 2000000 in
theorem parts_good (v1 : Value) (l : List Int) (i j k : Int) (w : World) (h1 : Ints .i32 w v1 l) (hl : l.length ≤ 2000) (hc : l.all code = true) (x1 : 0 ≤ i) (x2 : i ≤ j) (x3 : j ≤ k) (x4 : k ≤ (l.length : Nat))  :
    Calls Try.prog 7 #[v1, .int .i64 i, .int .i64 j, .int .i64 k] w fun e w' => e = .returned (.bool true) ∧ Below w.heap.size w w' := by
  have V1 := Lib.hid h1
  obtain ⟨a1, c1, rfl⟩ := h1.shape
  have hlen1 := h1.len
  obtain ⟨LA, LC, q1, q2, q3, q4, q5⟩ := parts_facts l i j k x1 x2 x3 x4
  have g1 : decide ((2000 : Int) < (l.length : Int)) = false := decide_eq_false (by omega)
  have d1 : decide (i < 0) = false := decide_eq_false (by omega)
  have d2 : decide (j < i) = false := decide_eq_false (by omega)
  have d3 : decide (k < j) = false := decide_eq_false (by omega)
  have d4 : decide ((l.length : Int) < k) = false := decide_eq_false (by omega)
  have HC := Lib.hid hc
  have HQ0 := Lib.hid (show ([] : List Int).length + l.length + 64 ≤ 400000 by simp; omega)
  have HQ1 := Lib.hid (show l.length ≤ 400000 by omega)
  have X1 := Lib.hid x1
  have X2 := Lib.hid x2
  have X3 := Lib.hid x3
  have X12 := Lib.hid (Int.le_trans x1 x2)
  have X23 := Lib.hid (Int.le_trans x2 x3)
  have X4 := Lib.hid x4
  have X34 := Lib.hid (Int.le_trans x3 x4)
  have X03 := Lib.hid (show 0 ≤ k by omega)
  have X04 := Lib.hid (show i ≤ (l.length : Nat) by omega)
  obtain ⟨LB, hLB⟩ : ∃ x, LA ++ LC = x := ⟨_, rfl⟩
  have HLB := Lib.hid hLB
  rw [hLB] at q3 q4
  obtain ⟨n4, hn4⟩ : ∃ n, LA.length = n := ⟨_, rfl⟩
  obtain ⟨n5, hn5⟩ : ∃ n, LC.length = n := ⟨_, rfl⟩
  obtain ⟨n6, hn6⟩ : ∃ n, LB.length = n := ⟨_, rfl⟩
  have N4 := Lib.hid hn4
  have N5 := Lib.hid hn5
  have N6 := Lib.hid hn6
  have hb6 : n6 ≤ 2000 := by rw [← hn6, ← hLB, List.length_append]; omega
  have hb4 : n4 ≤ 2000 := by omega
  have hb5 : n5 ≤ 2000 := by omega
  have E1 := Lib.hid q1
  have E2 := Lib.hid q2
  have E3 := Lib.hid q3
  obtain ⟨mi, hmi⟩ : ∃ n, nl (l.take i.toNat) = n := ⟨_, rfl⟩
  obtain ⟨mk, hmk⟩ : ∃ n, nl (l.take k.toNat) = n := ⟨_, rfl⟩
  have M1 := Lib.hid hmi
  have M2 := Lib.hid hmk
  obtain ⟨ml, hml⟩ : ∃ n, nl LB = n := ⟨_, rfl⟩
  have ML := Lib.hid hml
  rw [hmi, hmk, hml] at q4
  have hml2 : ml ≤ 2000 := by have := nl_le LB; omega
  have u1 : 0 ≤ ((mk : Nat) : Int) - ((mi : Nat) : Int) := by omega
  have u2 : ((mk : Nat) : Int) - ((mi : Nat) : Int) ≤ 2000 := by omega
  have gq : (((ml : Nat) : Int) == ((mk : Nat) : Int) - ((mi : Nat) : Int)) = true := by rw [beq_iff_eq]; exact q4
  obtain ⟨i0, hi0, hz0, hz1, hz2⟩ := info_32
  obtain ⟨n1, hn1⟩ : ∃ n, l.length = n := ⟨_, rfl⟩
  rw [hn1] at V1 hlen1 g1 d4 h1 ⊢
  clear q1 q2 q3 q4 q5 hLB hn4 hn5 hn6 hmi hmk hml x1 x2 x3 x4 hl hc hn1
  clear h1
  go_enter Try.func7, Try.ntmps7
  go_wp2_with (first
    | (go_at_call 23; (with_reducible refine (rv_new (B := w.heap.size) w (Nat.le_refl _)).mono ?_); rintro e w1 ⟨rb, rfl, q1, bb⟩; have R1 := Lib.hid q1; have B1 := Lib.hid bb; clear q1 bb)
    | (go_at_call 16; (with_reducible refine (rv_insE R1.out HQ0.out 0 (.slice a1 n1 c1) (V1.out.below B1.out) (insE_new HC.out) (insL_new HC.out)).mono ?_); rintro e w2 ⟨rfl, q1, bb⟩; have R2 := Lib.hid q1; have B2 := Lib.hid (B1.out.trans bb); clear q1 bb)
    | (go_at_call 11; (with_reducible refine (rv_sliceN R2.out HQ1.out i j X1.out X2.out X34.out E1.out).mono ?_); rintro e w3 ⟨v4, rfl, hv, bb⟩; obtain ⟨xa4, xc4, hxx⟩ := hv.shape; rw [N4.out] at hxx; subst hxx; have V4 := Lib.hid hv; clear hv; have R3 := Lib.hid (R2.out.below bb); have B3 := Lib.hid (below_add B2.out bb B2.out.size); clear bb)
    | (go_at_call 11; (with_reducible refine (rv_sliceN R3.out HQ1.out j k X12.out X3.out X4.out E2.out).mono ?_); rintro e w4 ⟨v5, rfl, hv, bb⟩; obtain ⟨xa5, xc5, hxx⟩ := hv.shape; rw [N5.out] at hxx; subst hxx; have V5 := Lib.hid hv; clear hv; have V4 := Lib.hid (V4.out.below bb); have R4 := Lib.hid (R3.out.below bb); have B4 := Lib.hid (below_add B3.out bb B3.out.size); clear bb)
    | (go_at_call 11; (with_reducible refine (rv_sliceN R4.out HQ1.out i k X1.out X23.out X4.out E3.out).mono ?_); rintro e w5 ⟨v6, rfl, hv, bb⟩; obtain ⟨xa6, xc6, hxx⟩ := hv.shape; rw [N6.out] at hxx; subst hxx; have V6 := Lib.hid hv; clear hv; have V4 := Lib.hid (V4.out.below bb); have V5 := Lib.hid (V5.out.below bb); have R5 := Lib.hid (R4.out.below bb); have B5 := Lib.hid (below_add B4.out bb B4.out.size); clear bb)
    | (go_at_call 12; (with_reducible refine (rv_lineN R5.out HQ1.out i X1.out X04.out M1.out).mono ?_); rintro e w6 ⟨rfl, bb⟩; have V4 := Lib.hid (V4.out.below bb); have V5 := Lib.hid (V5.out.below bb); have V6 := Lib.hid (V6.out.below bb); have R6 := Lib.hid (R5.out.below bb); have B6 := Lib.hid (below_add B5.out bb B5.out.size); clear bb)
    | (go_at_call 12; (with_reducible refine (rv_lineN R6.out HQ1.out k X03.out X4.out M2.out).mono ?_); rintro e w7 ⟨rfl, bb⟩; have V4 := Lib.hid (V4.out.below bb); have V5 := Lib.hid (V5.out.below bb); have V6 := Lib.hid (V6.out.below bb); have R7 := Lib.hid (R6.out.below bb); have B7 := Lib.hid (below_add B6.out bb B6.out.size); clear bb))
  have i00 : (0 : Int) ≤ 0 := by decide
  go_loop [20, 88] (fun s20 s88 => ∃ q : Nat, q ≤ n6 ∧ s88 = .int .i64 q ∧ s20 = .int .i64 (nl (LB.take q) : Nat)) (fun _ s88 => n6 - (intOf s88).toNat)
  case atStart => exact ⟨0, Nat.zero_le _, rfl, by simp [nl]⟩
  case round =>
    obtain ⟨q, hq, rfl, rfl⟩ := hrel
    by_cases hlt : q < n6
    · obtain ⟨b, off, rfl, -, hxc, hcm, hc⟩ := V6.out.opened (by rw [N6.out]; omega)
      have hck := hc q (by rw [N6.out]; exact hlt)
      have i1 : (q : Int) < n6 := by omega
      have i0 : (0 : Int) ≤ (q : Int) := by omega
      have NS := Lib.hid (nl_step (l := LB) (k := q) (by rw [N6.out]; exact hlt))
      have hcb := nl_take_le LB q
      obtain ⟨c, hcq⟩ : ∃ c, nl (LB.take q) = c := ⟨_, rfl⟩
      obtain ⟨r, hr⟩ : ∃ r, LB.getD q 0 = r := ⟨_, rfl⟩
      rw [hcq] at NS hcb ⊢
      rw [hr] at hck NS
      clear hc hr hcq
      by_cases h10 : r = 10
      · have NS2 := NS.out
        rw [if_pos h10] at NS2
        have gr : (r == 10) = true := by rw [beq_iff_eq]; exact h10
        clear h10
        have NS3 := Lib.hid NS2
        clear NS2
        go_wp2
        go_round
        case rel => exact ⟨q + 1, by omega, by go_num, by rw [NS3.out]; go_num⟩
        case measure => simp [intOf]; omega
      · have NS2 := NS.out
        rw [if_neg h10] at NS2
        have gr : (r == 10) = false := by rw [beq_eq_false_iff_ne]; exact h10
        clear h10
        have NS3 := Lib.hid NS2
        clear NS2
        go_wp2
        go_round
        case rel => exact ⟨q + 1, by omega, by go_num, by rw [NS3.out]; rfl⟩
        case measure => simp [intOf]; omega
    · obtain rfl : q = n6 := by omega
      rw [nl_all (by rw [N6.out]; exact Nat.le_refl _), ML.out]
      have g9 : decide ((q : Int) < (q : Int)) = false := decide_eq_false (by omega)
      clear hlt hq
      have OWN0 := Lib.hid (show (w7.alloc (.cells #[] 21)).ownsRow w7.heap.size 21 1 (.slice (some ⟨w7.heap.size, 0, none⟩) 0 0) 0 [] from owns_built w7 21 #[] (by simp))
      have hbA := below_alloc1 w7 (.cells #[] 21)
      have VA := Lib.hid (V4.out.below hbA)
      have HBA := Lib.hid hbA
      have hm1 : 0 + LA.length ≤ maxLen := by rw [N4.out]; unfold maxLen; omega
      have hm2 : (0 + LA.length) * 4 ≤ 140737488355328 := by rw [N4.out]; omega
      have hm3 : 0 + LA.length + LC.length ≤ maxLen := by rw [N4.out, N5.out]; unfold maxLen; omega
      have hm4 : (0 + LA.length + LC.length) * 4 ≤ 140737488355328 := by rw [N4.out, N5.out]; omega
      clear hbA
      go_wp2_with (first
        | (at_builtin; refine wpList_append_intsG (by rfl) (.tmp 116) (.tmp 117) 22 rfl w7.heap.size 21 i0 (.int .i32 0) 4 Try.underlying22 hi0 hz0 hz1 hz2 rfl (.slice (some ⟨w7.heap.size, 0, none⟩) 0 0) 0 [] rfl OWN0.out (.slice xa4 n4 xc4) .i32 LA rfl VA.out hm1 hm2 HBA.out.size ?_; intro v8 w8 ho8 hg8; have OW8 := Lib.hid ho8; have B8 := Lib.hid (HBA.out.grown hg8 HBA.out.size (fun k e => own_base OWN0.out e)); have VC := Lib.hid (V5.out.below B8.out); clear ho8 hg8)
        | (at_builtin; refine wpList_append_intsG (by rfl) (.tmp 118) (.tmp 119) 22 rfl w7.heap.size 21 i0 (.int .i32 0) 4 Try.underlying22 hi0 hz0 hz1 hz2 rfl v8 (0 + LA.length) ([] ++ LA.map (Value.int .i32)) rfl OW8.out (.slice xa5 n5 xc5) .i32 LC rfl VC.out hm3 hm4 B8.out.size ?_; intro v9 w9 ho9 hg9; have B9 := Lib.hid (B8.out.grown hg9 B8.out.size (fun k e => own_base OW8.out e)); have VB := Lib.hid (show Ints .i32 w9 v9 (LA ++ LC) from (Ints.of_owns (by rw [List.map_append]; exact ho9)).1); have V9 := Lib.hid (V6.out.below B9.out); clear ho9 hg9)
        | (go_at_call 24; refine (same9_self _ _ _ _ HLB.out _ VB.out V9.out).mono ?_; rintro e w10 ⟨rfl, bb⟩; have B10 := Lib.hid (below_add B7.out (below_add B9.out bb B9.out.size) B7.out.size); clear bb)
        | (go_at_call 9; refine (known10_any _).mono ?_; rintro e w11 ⟨rfl, bb⟩; have B99 := Lib.hid (below_add B10.out bb B10.out.size); clear bb))
      go_ret
      exact ⟨rfl, B99.out⟩
theorem parts_walk (v1 : Value) (l : List Int) (i j k : Int) (w : World) (h1 : Ints .i32 w v1 l) :
    Calls Try.prog 7 #[v1, .int .i64 i, .int .i64 j, .int .i64 k] w fun e w' => e = .returned (.bool true) ∧ Below w.heap.size w w' := by
  by_cases hl : l.length ≤ 2000
  · cases hc : l.all code with
    | false => exact parts_bad v1 l i j k w h1 hl hc
    | true =>
      by_cases x1 : 0 ≤ i
      · by_cases x2 : i ≤ j
        · by_cases x3 : j ≤ k
          · by_cases x4 : k ≤ (l.length : Nat)
            · exact parts_good v1 l i j k w h1 hl hc x1 x2 x3 x4
            · exact parts_kl v1 l i j k w h1 hl hc ⟨x1, x2, x3, x4⟩
          · exact parts_jk v1 l i j k w h1 hl hc ⟨x1, x2, x3⟩
        · exact parts_ij v1 l i j k w h1 hl hc ⟨x1, x2⟩
      · exact parts_i0 v1 l i j k w h1 hl hc x1
  · exact parts_long v1 l i j k w h1 hl
end Go.Proofs.Ytjgfgpkaeddjhaa
