
import Derived.Test.YtoppgdhidnpibaaKG
import Derived.Laws.StructEq
import Derived.Laws.Cover3
/- KH: spans compared; spans as a law's variables; known -/
namespace Go.Proofs.Ytoppgdhidnpibaa
open Go.RowKit
set_option linter.unusedVariables false
set_option maxRecDepth 100000

def ckB (x y : Ck) : Bool := decide ((x.n : Int) = (y.n : Int)) && decide (x.d = y.d)
theorem ckB_iff (x y : Ck) : ckB x y = true ↔ x = y := by
  obtain ⟨a, b⟩ := x
  obtain ⟨c, d⟩ := y
  simp only [ckB, Bool.and_eq_true, decide_eq_true_iff, Ck.mk.injEq]
  omega
theorem span_in (x y : Ck) (w : World) : (Op.equalIn 10000 44 (cvs x) (cvs y)).run Try.prog w = .ok (ckB x y) w := by
  obtain ⟨a1, a0⟩ := x
  obtain ⟨b1, b0⟩ := y
  have hS : Try.prog.underlying 44 = some (.struct (Try.prog.fieldsOf 44)) := by kernel_rfl
  have hp : Try.prog.stoodInHeld 44 = false := by kernel_rfl
  have u0 := Try.underlying3
  have ag0 := Try.isAgg3
  have z0 := Try.sizeOf3
  unfold cvs crow
  rw [show (10000 : Nat) = 9999 + 1 from rfl, run_equalIn_agg w 9999 44 _ _ hS hp]
  simp only [Program.fieldsOf, Try.underlying44]
  simp only [Op.eqFields, ne_eq]
  go_simp
  unfold ckB
  by_cases h1 : (a1 : Int) = (b1 : Int) <;> by_cases h0 : a0 = b0 <;> simp [h1, h0]
theorem span_eql (x y : Ck) (w : World) : (binOp .eql 44 (cvs x) (cvs y)).run Try.prog w = .ok (.bool (ckB x y)) w := by
  have := span_in x y w
  unfold cvs at this ⊢
  rw [run_eql_struct, this]; rfl
theorem span_neq (x y : Ck) (w : World) : (binOp .neq 44 (cvs x) (cvs y)).run Try.prog w = .ok (.bool (!ckB x y)) w := by
  have := span_in x y w
  unfold cvs at this ⊢
  rw [run_neq_struct, this]; rfl
theorem ck_at {w : World} {b off cap : Nat} {xs : List Ck} (h : Row CkC w (.slice (some ⟨b, off, none⟩) xs.length cap) xs) {k : Nat} (hk : k < xs.length) : w.cell? ⟨b, off + k * 2, none⟩ = some (.int .i64 (xs[k].n : Nat)) ∧ w.cell? ⟨b, off + k * 2 + 1, none⟩ = some (.int .i64 xs[k].d) := by
  obtain ⟨b', off', e, -, -, -, -, hat, -⟩ := Row.opened h (by omega)
  injection e with e
  injection e with e1 e2
  subst e1 e2
  exact ⟨hat k hk 0 _ rfl, hat k hk 1 _ rfl⟩
set_option maxHeartbeats 800000 in
/-- The reference's Same, of two rows that are the same. -/
theorem same11_any (v1 v2 : Value) (xs : List Ck) (w : World) (h1 : Row CkC w v1 xs) (h2 : Row CkC w v2 xs) (h0 : 0 < xs.length) (hl : xs.length ≤ 1000000) :
    Calls Try.prog 21 #[v1, v2] w fun e w' => e = .returned (.bool true) ∧ ∃ q, w' = w.drewN q := by
  obtain ⟨a1, cap1, rfl⟩ := h1.shape
  obtain ⟨a2, cap2, rfl⟩ := h2.shape
  obtain ⟨b1, o1, rfl, -, -, -, -, -, -⟩ := Row.opened h1 h0
  obtain ⟨b2, o2, rfl, -, -, -, -, -, -⟩ := Row.opened h2 h0
  have H1 := Lib.hid h1
  have H2 := Lib.hid h2
  clear h1 h2
  go_enter Try.func21, Try.ntmps21
  go_wp2
  go_loopw [5] (fun i wr => ∃ k q : Nat, k ≤ xs.length ∧ i = .int .i64 k ∧ wr = w.drewN q) (fun i _ => xs.length - (intOf i).toNat)
  case atStart => exact ⟨0, 0, Nat.zero_le _, rfl, rfl⟩
  case round =>
    obtain ⟨k, q, hk, rfl, rfl⟩ := hrel
    by_cases hlt : k < xs.length
    · obtain ⟨c0, c1⟩ := ck_at H1.out hlt
      obtain ⟨d0, d1⟩ := ck_at H2.out hlt
      have hq := fun w => span_neq xs[k] xs[k] w
      rw [(ckB_iff _ _).2 rfl] at hq
      unfold cvs crow at hq
      generalize xs[k].n = n at *
      generalize xs[k].d = d at *
      go_wp2
      go_quiet (fail)
      go_wp2
      go_roundw
      case rel => exact ⟨k + 1, q + nq, by omega, by go_num, by simp⟩
      case measure => simp [intOf]; omega
    · obtain rfl : k = xs.length := by omega
      go_wp2
      go_ret
      exact ⟨rfl, q, rfl⟩

/-- Spans of the numbers l at rb, in blocks from B on, few and not too long; no number is below 0. -/
def RV (B rb : Nat) (l : List Int) (W : World) : Prop := (∃ S : Nat → Prop, Rp S rb l W ∧ ∀ k, S k → B ≤ k ∧ k < W.heap.size) ∧ l.length ≤ 536870912 ∧ ∀ i ∈ l, 0 ≤ i
/-- Two of them that have no block in common. -/
def R2 (B rb : Nat) (l : List Int) (sb : Nat) (m : List Int) (W : World) : Prop := (∃ S T : Nat → Prop, Rp S rb l W ∧ Rp T sb m W ∧ (∀ k, S k → B ≤ k ∧ k < W.heap.size) ∧ (∀ k, T k → B ≤ k ∧ k < W.heap.size) ∧ ∀ k, S k → ¬ T k) ∧ (l.length ≤ 536870912 ∧ ∀ i ∈ l, 0 ≤ i) ∧ (m.length ≤ 536870912 ∧ ∀ i ∈ m, 0 ≤ i)
theorem flat_mem {xs : List Ck} {i : Int} (h : i ∈ flat xs) : ∃ x ∈ xs, i = x.d ∧ 0 < x.n := by
  unfold flat at h
  obtain ⟨x, hx, hi⟩ := List.mem_flatMap.1 h
  rw [List.mem_replicate] at hi
  exact ⟨x, hx, hi.2, by omega⟩
/-- What Splice leaves is as long as may be, and has no number below 0. -/
theorem spL_ok {l : List Int} (h : l.length ≤ 536870912 ∧ ∀ i ∈ l, 0 ≤ i) (i j : Int) (xs : List Rw) : (spL l i j xs).length ≤ 536870912 ∧ ∀ i' ∈ spL l i j xs, 0 ≤ i' := by
  unfold spL
  split
  · rename_i he
    unfold spE at he
    split at he
    · cases he
    split at he
    · cases he
    split at he
    · rename_i hb hr hm
      have hb : anyBad xs = false := by simpa using hb
      have hr : rcB l.length i j = true := by simpa using hr
      obtain ⟨a1, a2, a3⟩ := (rcB_iff _ _ _).1 hr
      have hp := anyBad_no hb
      have hs := lnS_ck (fun x hx => (hp x hx).1)
      refine ⟨?_, fun i' hi' => ?_⟩
      · rw [List.length_append, List.length_append, List.length_take, List.length_drop, flat_len]
        omega
      · rcases List.mem_append.1 hi' with hi' | hi'
        · exact h.2 i' (List.mem_of_mem_take hi')
        · rcases List.mem_append.1 hi' with hi' | hi'
          · obtain ⟨x, hx, rfl, -⟩ := flat_mem hi'
            obtain ⟨y, hy, rfl⟩ := List.mem_map.1 hx
            exact (hp y hy).2
          · exact h.2 i' (List.mem_of_mem_drop hi')
    · cases he
  · exact h
/-- How many spans there may be behind it. -/
theorem spL_cnt (l : List Int) (i j : Int) (xs : List Rw) : cntR (spL l i j xs) ≤ cntR l + 1 + xs.length := by
  unfold spL
  split
  · rename_i he
    have hij : i.toNat ≤ j.toNat := by
      unfold spE at he
      split at he
      · cases he
      split at he
      · cases he
      rename_i hr
      have hr : rcB l.length i j = true := by simpa using hr
      obtain ⟨a1, a2, a3⟩ := (rcB_iff _ _ _).1 hr
      omega
    have h1 := (cntR_app (l.take i.toNat) (flat (xs.map Rw.ck) ++ l.drop j.toNat)).1
    have h2 := (cntR_app (flat (xs.map Rw.ck)) (l.drop j.toNat)).1
    have h3 := cntR_flat (xs.map Rw.ck)
    have h4 := cntR_cut l i.toNat
    have h5 := cntR_drop (l.drop i.toNat) (j.toNat - i.toNat)
    rw [List.drop_drop, show i.toNat + (j.toNat - i.toNat) = j.toNat by omega] at h5
    rw [List.length_map] at h3
    omega
  · omega
section
variable {B rb sb : Nat} {l m : List Int} {xs : List Rw} {w w' W : World}
theorem RV.below (h : RV B rb l w) (hb : Below w.heap.size w w') : RV B rb l w' := by
  obtain ⟨⟨S, h1, h2⟩, h3⟩ := h
  exact ⟨⟨S, h1.below hb, fun k hk => ⟨(h2 k hk).1, Nat.lt_of_lt_of_le (h2 k hk).2 hb.size⟩⟩, h3⟩
theorem RV.alloc (h : RV B rb l w) (o : Obj) : RV B rb l (w.alloc o) := h.below ((Below.refl _ _).alloc (Nat.le_refl _) o)
theorem RV.hB (h : RV B rb l w) : B ≤ w.heap.size := by
  obtain ⟨⟨S, h1, h2⟩, h3⟩ := h
  have := h2 _ h1.mem.1
  omega
theorem RV.wq (h : RV B rb l w) (hq : cntR l ≤ 300000) : Go.Proofs.Ytoppgdhidnpibaa.wq l ≤ 4000000000 := by
  have := h.2.1
  unfold Go.Proofs.Ytoppgdhidnpibaa.wq
  omega
theorem R2.below (h : R2 B rb l sb m w) (hb : Below w.heap.size w w') : R2 B rb l sb m w' := by
  obtain ⟨⟨S, T, h1, h2, h3, h4, h5⟩, h6⟩ := h
  exact ⟨⟨S, T, h1.below hb, h2.below hb, fun k hk => ⟨(h3 k hk).1, Nat.lt_of_lt_of_le (h3 k hk).2 hb.size⟩, fun k hk => ⟨(h4 k hk).1, Nat.lt_of_lt_of_le (h4 k hk).2 hb.size⟩, h5⟩, h6⟩
theorem R2.fst (h : R2 B rb l sb m w) : RV B rb l w := by
  obtain ⟨⟨S, T, h1, h2, h3, h4, h5⟩, h6⟩ := h
  exact ⟨⟨S, h1, h3⟩, h6.1⟩
theorem R2.snd (h : R2 B rb l sb m w) : RV B sb m w := by
  obtain ⟨⟨S, T, h1, h2, h3, h4, h5⟩, h6⟩ := h
  exact ⟨⟨T, h2, h4⟩, h6.2⟩
theorem R2.swap (h : R2 B rb l sb m w) : R2 B sb m rb l w := by
  obtain ⟨⟨S, T, h1, h2, h3, h4, h5⟩, h6⟩ := h
  exact ⟨⟨T, S, h2, h1, h4, h3, fun k h h' => h5 k h' h⟩, h6.2, h6.1⟩
theorem rv_new (w : World) (hB : B ≤ w.heap.size) : Calls Try.prog 19 #[] w fun e w' => ∃ rb : Nat, e = .returned (.pointer (some ⟨rb, 0, none⟩)) ∧ RV B rb [] w' ∧ Below w.heap.size w w' := by
  refine (sp_new w).mono ?_
  rintro e w' ⟨rb, rfl, h, hb⟩
  exact ⟨rb, rfl, ⟨⟨_, h, fun k hk => ⟨Nat.le_trans hB hk.1, hk.2⟩⟩, by decide, fun i hi => (by cases hi)⟩, hb⟩
theorem rv_new2 (h : RV B rb l w) : Calls Try.prog 19 #[] w fun e w' => ∃ sb : Nat, e = .returned (.pointer (some ⟨sb, 0, none⟩)) ∧ R2 B rb l sb [] w' ∧ Below w.heap.size w w' := by
  have hB := h.hB
  obtain ⟨⟨S, h1, h2⟩, h3⟩ := h
  refine (sp_new w).mono ?_
  rintro e w' ⟨sb, rfl, h, hb⟩
  refine ⟨sb, rfl, ⟨⟨S, _, h1.below hb, h, fun k hk => ⟨(h2 k hk).1, Nat.lt_of_lt_of_le (h2 k hk).2 hb.size⟩, fun k hk => ⟨Nat.le_trans hB hk.1, hk.2⟩, fun k h h' => ?_⟩, h3, by decide, fun i hi => (by cases hi)⟩, hb⟩
  have := (h2 k h).2
  have := h'.1
  omega
/-- A row of spans of which no cell lies where a law's variables have theirs: from B up to z. -/
def RowB (B z : Nat) (w : World) (v : Value) (xs : List Rw) : Prop := ∀ W, Off (fun k => B ≤ k ∧ k < z) w W → Row RwC W v xs
theorem rowB_arg {W0 : World} {z : Nat} {v : Value} (h : Row RwC W0 v xs) (h0 : W0.heap.size ≤ B) (hb : Below B W0 w) (hB : B ≤ w.heap.size) : RowB B z w v xs := fun W hW =>
  h.below (hb.trans (hW.below (fun k hk => hk.1) hB)) h0
theorem row_cells {b : Nat} {t : TypeId} (hm : xs.length ≤ maxLen) (h : Cb b t (Go.Proofs.Ytoppgdhidnpibaa.fl RwC xs).toArray W) : Row RwC W (.slice (some ⟨b, 0, none⟩) xs.length xs.length) xs := by
  by_cases h0 : xs = []
  · subst h0; exact .inl ⟨_, 0, rfl, rfl, by simp, by simp⟩
  · refine .inr ⟨b, 0, _, rfl, List.length_pos_iff.2 h0, Nat.le_refl _, hm, fun j u hu => ?_⟩
    rw [Nat.zero_add, h.cell j]
    simpa using hu
theorem rowB_built {z : Nat} {cs : Array Value} (xs : List Rw) (hc : (Go.Proofs.Ytoppgdhidnpibaa.fl RwC xs).toArray = cs) (hm : xs.length ≤ 1000) (hz : z ≤ w.heap.size) : RowB B z (w.alloc (.cells cs 44)) (.slice (some ⟨w.heap.size, 0, none⟩) xs.length xs.length) xs := fun W hW => by
  subst hc
  exact row_cells (by unfold maxLen; omega) ((cb_new w 44 _).off hW (fun hk => by have := hk.2; omega))
theorem rowB_own {z b : Nat} {v : Value} {ys : List Ck} (h : w.ownsRow b 44 2 v ys.length (Go.Proofs.Ytoppgdhidnpibaa.fl CkC ys)) (hz : z ≤ b) : RowB B z w v (ys.map fun y => ⟨(y.n : Nat), y.d⟩) := fun W hW => by
  have hr := (Row.of_owns (C := CkC) (owns_kept h (fun g hg => hW.block g (own_lt7 h hg) (fun hk => by have := own_base h hg; have := hk.2; omega)))).1
  have e : Go.Proofs.Ytoppgdhidnpibaa.fl RwC (ys.map fun y => ⟨(y.n : Nat), y.d⟩) = Go.Proofs.Ytoppgdhidnpibaa.fl CkC ys := by
    clear hr hW h
    induction ys with
    | nil => rfl
    | cons y r ih => rw [List.map_cons, fl_cons, fl_cons, ih]; rfl
  rcases hr with ⟨a, cap, hv, rfl, h1, h2⟩ | ⟨b, off, cap, hv, h0, h1, h2, h3⟩
  · exact .inl ⟨a, cap, hv, rfl, h1, h2⟩
  · exact .inr ⟨b, off, cap, by rw [List.length_map]; exact hv, by rw [List.length_map]; exact h0, by rw [List.length_map]; exact h1, h2, by rw [e]; exact h3⟩
theorem rv_splice {w0 : World} (h0 : RV B rb l w0) (hw : Below w0.heap.size w0 w) (hq : cntR l + xs.length ≤ 20000) (i j : Int) (v : Value) (hv : RowB B w0.heap.size w v xs) :
    Calls Try.prog 12 #[.pointer (some ⟨rb, 0, none⟩), .int .i64 i, .int .i64 j, v] w fun e w' => e = .returned (.int .i64 (spE l i j xs)) ∧ RV B rb (spL l i j xs) w' ∧ Below B w w' := by
  have hB := (h0.below hw).hB
  obtain ⟨⟨S, g1, g2⟩, h3⟩ := h0
  have h1 := g1.below hw
  have h2 : ∀ k, S k → B ≤ k ∧ k < w.heap.size := fun k hk => ⟨(g2 k hk).1, Nat.lt_of_lt_of_le (g2 k hk).2 hw.size⟩
  refine (sp_splice h1 (fun k hk => (h2 k hk).2) h3.1 hq i j v (fun W hW => hv W (hW.mono g2))).mono ?_
  rintro e w' ⟨rfl, S', q1, q2, q3⟩
  exact ⟨rfl, ⟨⟨S', q1, fun k hk => ⟨(q2 k hk).1.elim (fun h => (h2 k h).1) (fun h => Nat.le_trans hB h), (q2 k hk).2⟩⟩, spL_ok h3 i j xs⟩, q3.below (fun k hk => (h2 k hk).1) hB⟩
theorem r2_splice {w0 : World} (h0 : R2 B rb l sb m w0) (hw : Below w0.heap.size w0 w) (hq : cntR l + xs.length ≤ 20000) (i j : Int) (v : Value) (hv : RowB B w0.heap.size w v xs) :
    Calls Try.prog 12 #[.pointer (some ⟨rb, 0, none⟩), .int .i64 i, .int .i64 j, v] w fun e w' => e = .returned (.int .i64 (spE l i j xs)) ∧ R2 B rb (spL l i j xs) sb m w' ∧ Below B w w' := by
  have hB := (h0.below hw).fst.hB
  obtain ⟨⟨S, T, g1, g2, g3, g4, h5⟩, h6⟩ := h0
  have h1 := g1.below hw
  have h2 := g2.below hw
  have h3 : ∀ k, S k → B ≤ k ∧ k < w.heap.size := fun k hk => ⟨(g3 k hk).1, Nat.lt_of_lt_of_le (g3 k hk).2 hw.size⟩
  have h4 : ∀ k, T k → B ≤ k ∧ k < w.heap.size := fun k hk => ⟨(g4 k hk).1, Nat.lt_of_lt_of_le (g4 k hk).2 hw.size⟩
  refine (sp_splice h1 (fun k hk => (h3 k hk).2) h6.1.1 hq i j v (fun W hW => hv W (hW.mono g3))).mono ?_
  rintro e w' ⟨rfl, S', q1, q2, q3⟩
  refine ⟨rfl, ⟨⟨S', T, q1, h2.off q3 (fun k hk hs => h5 k hs hk), fun k hk => ⟨(q2 k hk).1.elim (fun h => (h3 k h).1) (fun h => Nat.le_trans hB h), (q2 k hk).2⟩, fun k hk => ⟨(h4 k hk).1, Nat.lt_of_lt_of_le (h4 k hk).2 q3.size⟩, fun k hk ht => ?_⟩, spL_ok h6.1 i j xs, h6.2⟩, q3.below (fun k hk => (h3 k hk).1) hB⟩
  rcases (q2 k hk).1 with h | h
  · exact h5 k h ht
  · have := (h4 k ht).2; omega
theorem rv_len (h : RV B rb l w) : Calls Try.prog 15 #[.pointer (some ⟨rb, 0, none⟩)] w fun e w' => e = .returned (.int .i64 (l.length : Nat)) ∧ Below w.heap.size w w' := by
  obtain ⟨⟨S, h1, h2⟩, -⟩ := h
  exact sp_len h1
theorem rv_count (h : RV B rb l w) : Calls Try.prog 16 #[.pointer (some ⟨rb, 0, none⟩)] w fun e w' => e = .returned (.int .i64 (cntR l : Nat)) ∧ Below w.heap.size w w' := by
  obtain ⟨⟨S, h1, h2⟩, -⟩ := h
  exact sp_count h1
theorem rv_at (h : RV B rb l w) (hq : cntR l ≤ 300000) (i : Int) : Calls Try.prog 9 #[.pointer (some ⟨rb, 0, none⟩), .int .i64 i] w fun e w' => e = .returned (.tuple #[.int .i64 (atV l i), .int .i64 (atE l i)]) ∧ Below w.heap.size w w' := by
  have hw := h.wq hq
  obtain ⟨⟨S, h1, h2⟩, -⟩ := h
  exact sp_at h1 hw i
theorem rv_span (h : RV B rb l w) (hq : cntR l ≤ 300000) (k : Nat) (x : Ck) (hk : (rl l)[k]? = some x) : Calls Try.prog 28 #[.pointer (some ⟨rb, 0, none⟩), .int .i64 (k : Nat)] w fun e w' => e = .returned (cvs x) ∧ Below w.heap.size w w' := by
  have hw := h.wq hq
  obtain ⟨⟨S, h1, h2⟩, -⟩ := h
  exact sp_span h1 hw k x hk
theorem rv_over_no (h : RV B rb l w) (i j : Int) (hr : rcB l.length i j = false) : Calls Try.prog 10 #[.pointer (some ⟨rb, 0, none⟩), .int .i64 i, .int .i64 j] w fun e w' => e = .returned (.tuple #[.slice none 0 0, .int .i64 5]) ∧ Below w.heap.size w w' := by
  obtain ⟨⟨S, h1, h2⟩, -⟩ := h
  exact sp_over_no h1 i j hr
theorem rv_over (h : RV B rb l w) (hq : cntR l ≤ 300000) (i j : Nat) (hij : i ≤ j) (hj : j ≤ l.length) :
    Calls Try.prog 10 #[.pointer (some ⟨rb, 0, none⟩), .int .i64 (i : Nat), .int .i64 (j : Nat)] w fun e w' => ∃ v b, e = .returned (.tuple #[v, .int .i64 0]) ∧ w.heap.size ≤ b ∧ w'.ownsRow b 44 2 v (rl (part l (i : Nat) (j : Nat))).length (Go.Proofs.Ytoppgdhidnpibaa.fl CkC (rl (part l (i : Nat) (j : Nat)))) ∧ Below w.heap.size w w' := by
  have hw := h.wq hq
  obtain ⟨⟨S, h1, h2⟩, -⟩ := h
  exact sp_over h1 hw i j hij hj

/-! known -/
end
end Go.Proofs.Ytoppgdhidnpibaa
