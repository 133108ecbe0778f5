
import Derived.Test.YteodfbkfpboehaaET
/- EU: a row of calls with one, or two, ahead of it; records in blocks of X between calls; two values compared -/
namespace Go.Proofs.Yteodfbkfpboehaa
open Go.RowKit
set_option linter.unusedVariables false
set_option maxRecDepth 100000

set_option maxRecDepth 100000 in
theorem val_in5 (k n f k' n' f' : Int) (s s' : ByteArray) (w : World) :
    (Op.equalIn 10000 48 (val k n f s) (val k' n' f' s')).run Try.prog w = .ok ((k == k') && (n == n') && (f == f') && (s.toList == s'.toList)) w := by
  have hS : Try.prog.underlying 48 = some (.struct (Try.prog.fieldsOf 48)) := by kernel_rfl
  have hp : Try.prog.stoodInHeld 48 = false := by kernel_rfl
  have u1 := Try.underlying5
  have u2 := Try.underlying2
  have u3 := Try.underlying46
  have u4 := Try.underlying9
  have a1 := Try.isAgg5
  have a2 := Try.isAgg2
  have a3 := Try.isAgg46
  have a4 := Try.isAgg9
  have z1 := Try.sizeOf5
  have z2 := Try.sizeOf2
  have z3 := Try.sizeOf46
  have z4 := Try.sizeOf9
  rw [show (10000 : Nat) = 9999 + 1 from rfl, run_equalIn_agg w 9999 48 _ _ hS hp]
  simp only [Program.fieldsOf, Try.underlying48]
  go_simp
  by_cases h1 : k = k' <;> by_cases h2 : n = n' <;> by_cases h3 : f = f' <;> by_cases h4 : s.toList = s'.toList <;> simp [h1, h2, h3, h4]
theorem val_neq (k n f k' n' f' : Int) (s s' : ByteArray) (w : World) :
    (binOp .neq 48 (val k n f s) (val k' n' f' s')).run Try.prog w = .ok (.bool (!((k == k') && (n == n') && (f == f') && (s.toList == s'.toList)))) w := by
  rw [run_neq_struct, val_in5]; rfl
theorem val_neq_self (k n f : Int) (s : ByteArray) (w : World) : (binOp .neq 48 (val k n f s) (val k n f s)).run Try.prog w = .ok (.bool false) w := by
  rw [val_neq]; simp
/-- An operation whose guard says yes. -/
theorem wpList_noguard {P : Program} {ops : Array Oper} {Q : Exit → Act → World → Prop} {a : Act} {w : World} {rest : List Oper} {o : Oper} (hw : Region.wanted o (yielded ops a.tmps) = true) (h : wpList P ops Q ({ o with guard := none } :: rest) a w) : wpList P ops Q (o :: rest) a w := by
  unfold wpList at h ⊢
  rw [if_pos hw]
  rw [if_pos (show Region.wanted { o with guard := none } (yielded ops a.tmps) = true from rfl)] at h
  exact h
theorem info_op : ∃ i, Try.prog.info? 25 = some i ∧ i.zero = some (.agg #[.int .i64 0, .int .i64 0, .int .i64 0, .slice none 0 0, .slice none 0 0]) ∧ i.size = 5 ∧ i.bytes = 72 := ⟨_, rfl, rfl, rfl, rfl⟩
theorem own_lit (w : World) (e : TypeId) (os : List OpV) (cs : List Value) (hc : cs = Go.Proofs.Yteodfbkfpboehaa.fl opC os) (hm : os.length ≤ maxLen) : (w.alloc (.cells cs.toArray e)).ownsRow w.heap.size e opC.m (.slice (some ⟨w.heap.size, 0, none⟩) os.length os.length) os.length cs := by
  subst hc
  have hl : (Go.Proofs.Yteodfbkfpboehaa.fl opC os).length = os.length * opC.m := fl_len opC os
  refine ⟨hl, .inr ⟨w.heap.size, os.length, _, rfl, Nat.le_refl _, cb_new w e _, Nat.le_refl _, hm, by simpa using hl, ?_⟩⟩
  rw [← hl]
  simp
theorem below_lit {w w' : World} {o : Obj} {row : Option Nat} (h : (w.alloc o).grownBy w' row) (hr : row = some w.heap.size) : Below w.heap.size w w' := by
  have b1 := below_alloc1 w o
  exact b1.trans ⟨h.os, h.tape, h.output, h.size, fun k hk => h.block k (by rw [World.size_alloc]; omega) (fun e => by rw [hr] at e; injection e with e; omega)⟩
theorem row_cons {w : World} {base : Nat} {e : TypeId} {v : Value} {n : Nat} {os ss : List OpV} {cs : List Value} (hc : cs = Go.Proofs.Yteodfbkfpboehaa.fl opC os) (h : w.ownsRow base e opC.m v n (cs ++ Go.Proofs.Yteodfbkfpboehaa.fl opC ss)) : Row opC w v (os ++ ss) := by
  rw [hc, ← fl_app] at h
  exact (Row.of_owns h).1
/-- A row of calls with one ahead of it. -/
theorem orow_cons {w : World} {v : Value} {ls : List OpL} {o : OpV} {p0 : OpL} (h : Orow w v ls) (hp : OpR w o p0) : ∃ (ss : List OpV) (p : OpL), Row opC w v ss ∧ ss.length = ls.length ∧ OpR w o p ∧ (∀ w' v', Below w.heap.size w w' → Row opC w' v' (o :: ss) → Orow w' v' (p :: ls)) ∧ ∃ f : OpV → OpL, (∀ q ∈ o :: ss, OpR w q (f q)) ∧ f o = p ∧ ls = ss.map f := by
  classical
  obtain ⟨ss, f, h1, rfl, h3⟩ := h
  have key : ∃ (p : OpL) (f' : OpV → OpL), OpR w o p ∧ (∀ q ∈ o :: ss, OpR w q (f' q)) ∧ f' o = p ∧ ss.map f = ss.map f' := by
    by_cases ho : o ∈ ss
    · exact ⟨f o, f, h3 o ho, fun q hq => by
        rcases List.mem_cons.1 hq with rfl | hq
        · exact h3 _ ho
        · exact h3 _ hq, rfl, rfl⟩
    · refine ⟨p0, fun q => if q = o then p0 else f q, hp, fun q hq => ?_, by simp, ?_⟩
      · rcases List.mem_cons.1 hq with rfl | hq2
        · simpa using hp
        · by_cases e : q = o
          · exact absurd (e ▸ hq2) ho
          · simpa [e] using h3 _ hq2
      · refine List.map_congr_left fun q hq => ?_
        have : q ≠ o := fun e => ho (e ▸ hq)
        simp [this]
  obtain ⟨p, f', k1, k2, k3, k4⟩ := key
  refine ⟨ss, p, h1, by simp, k1, fun w' v' hb hr => ⟨o :: ss, f', hr, by rw [List.map_cons, k3, k4], fun q hq => (k2 q hq).below hb⟩, f', k2, k3, k4⟩
/-- .. with two ahead of it. -/
theorem orow_cons2 {w : World} {v : Value} {ls : List OpL} {o1 o2 : OpV} {p1 p2 : OpL} (h : Orow w v ls) (hp1 : OpR w o1 p1) (hp2 : OpR w o2 p2) : ∃ (ss : List OpV) (p q : OpL), Row opC w v ss ∧ ss.length = ls.length ∧ OpR w o1 p ∧ OpR w o2 q ∧ ∀ w' v', Below w.heap.size w w' → Row opC w' v' (o1 :: o2 :: ss) → Orow w' v' (p :: q :: ls) := by
  classical
  obtain ⟨ss, q, h1, h2, h3, -, f, h5, h6, h7⟩ := orow_cons h hp2
  by_cases ho : o1 ∈ o2 :: ss
  · refine ⟨ss, f o1, q, h1, h2, h5 _ ho, h3, fun w' v' hb hr => ⟨_, f, hr, by rw [List.map_cons, List.map_cons, h6, ← h7], fun z hz => ?_⟩⟩
    rcases List.mem_cons.1 hz with rfl | hz
    · exact (h5 _ ho).below hb
    · exact (h5 _ hz).below hb
  · refine ⟨ss, p1, q, h1, h2, hp1, h3, fun w' v' hb hr => ⟨_, fun z => if z = o1 then p1 else f z, hr, ?_, fun z hz => ?_⟩⟩
    · have hm : (o2 :: ss).map f = (o2 :: ss).map (fun z => if z = o1 then p1 else f z) := List.map_congr_left fun z hz => by
        have : z ≠ o1 := fun e => ho (e ▸ hz)
        simp [this]
      rw [List.map_cons (f := fun z => if z = o1 then p1 else f z), ← hm, List.map_cons, h6, ← h7]
      simp
    · rcases List.mem_cons.1 hz with rfl | hz
      · simpa using hp1.below hb
      · by_cases e : z = o1
        · exact absurd (e ▸ hz) ho
        · simpa [e] using (h5 _ hz).below hb

/-- Records in blocks of X, these, after k calls; X is from w on. -/
structure LX (X : Nat → Prop) (w : World) (rb k : Nat) (l : List (List Att)) (W : World) : Prop where
  r : RX X rb l W
  u : Up X W
  b : Below w.heap.size w W
  xs : ∀ q, X q → w.heap.size ≤ q
  p : PB k l
section
variable {X : Nat → Prop} {w W W' : World} {rb k : Nat} {l : List (List Att)}
theorem LX.below (h : LX X w rb k l W) (hb : Below W.heap.size W W') : LX X w rb k l W' := ⟨h.r.below hb, h.u.below hb, below_add h.b hb h.b.size, h.xs, h.p⟩
theorem LX.turn {m : Nat} {l' : List (List Att)} (h : LX X w rb k l W) (q1 : RX X rb l' W') (q2 : Off X W W') (p : PB m l') : LX X w rb m l' W' := ⟨q1, h.u.off q2, h.b.trans (q2.below h.xs h.b.size), h.xs, p⟩
theorem LX.pb {m : Nat} (h : LX X w rb k l W) (p : PB m l) : LX X w rb m l W := ⟨h.r, h.u, h.b, h.xs, p⟩
theorem LX.nv {L : List (List Att)} {v : Value} (h : LX X w rb k l W) (hv : Nrow w v L) : ∀ W', Off X W W' → Nrow W' v L := fun W' ho => hv.below (h.b.trans (ho.below h.xs h.b.size)) (Nat.le_refl _)
theorem LX.cv {L : List Chg} {v : Value} (h : LX X w rb k l W) (hv : Crow w v L) : ∀ W', Off X W W' → Crow W' v L := fun W' ho => hv.below (h.b.trans (ho.below h.xs h.b.size)) (Nat.le_refl _)
theorem LX.ins (h : LX X w rb k l W) (hk : k ≤ 100) {o : OpL} (ho : smallO o) {v : Value} (hv : Nrow w v o.L) :
    Calls Try.prog 11 #[.pointer (some ⟨rb, 0, none⟩), .int .i64 o.i, v] W fun e w' => e = .returned (.int .i64 (mrE l.length o.i o.i)) ∧ LX X w rb (k + 1) (insL l o.i o.L) w' ∧ Off X W w' := by
  have hn := h.p.n
  refine (rx_insert h.r h.u o.i v (h.nv hv) (fun s hs => by have := (ho.2.2.2 s hs).1; omega) (by have := ho.1; omega)).mono ?_
  rintro e w' ⟨rfl, q1, q2⟩
  exact ⟨rfl, h.turn q1 q2 (h.p.ins ho), q2⟩
theorem LX.del (h : LX X w rb k l W) (hk : k ≤ 100) (i j : Int) :
    Calls Try.prog 12 #[.pointer (some ⟨rb, 0, none⟩), .int .i64 i, .int .i64 j] W fun e w' => e = .returned (.int .i64 (mrE l.length i j)) ∧ LX X w rb (k + 1) (delL l i j) w' ∧ Off X W w' := by
  have hn := h.p.n
  refine (rx_delete h.r h.u (by omega) i j).mono ?_
  rintro e w' ⟨rfl, q1, q2⟩
  exact ⟨rfl, h.turn q1 q2 (h.p.del i j), q2⟩
theorem LX.pat (h : LX X w rb k l W) (hk : k ≤ 100) {o : OpL} (ho : smallO o) {v : Value} (hv : Crow w v o.x) :
    Calls Try.prog 13 #[.pointer (some ⟨rb, 0, none⟩), .int .i64 o.i, .int .i64 o.m, v] W fun e w' => e = .returned (.int .i64 (mrE l.length o.i o.m)) ∧ LX X w rb (k + 1) (patL l o.i o.m o.x) w' ∧ Off X W w' := by
  have hn := h.p.n
  refine (rx_patch h.r h.u (by omega) o.i o.m v o.x (h.cv hv) (by have := ho.2.1; omega) (fun s hs => by have := (h.p.s s hs).1; have := ho.2.1; omega)).mono ?_
  rintro e w' ⟨rfl, q1, q2⟩
  exact ⟨rfl, h.turn q1 q2 (h.p.pat ho), q2⟩
theorem LX.at (h : LX X w rb k l W) (hk : k ≤ 100) (n : Nat) (hn : n < l.length) :
    Calls Try.prog 9 #[.pointer (some ⟨rb, 0, none⟩), .int .i64 (n : Nat)] W fun e w' => ∃ a c, e = .returned (.tuple #[.slice a (l.getD n []).length c, .int .i64 0]) ∧ Arow w' (.slice a (l.getD n []).length c) (l.getD n []) ∧ Below W.heap.size W w' := by
  have hp := h.p.n
  refine (rx_at h.r (by omega) (n : Nat)).mono ?_
  rintro e w' ⟨u, rfl, q1, q2⟩
  have hr : (0 : Int) ≤ (n : Nat) ∧ ((n : Nat) : Int) < (l.length : Nat) := ⟨by omega, by omega⟩
  have e1 : atE l (n : Nat) = 0 := by unfold atE; rw [if_pos hr]
  have e2 : atL l (n : Nat) = l.getD n [] := by unfold atL; rw [if_pos hr]; rfl
  rw [e2] at q1
  rw [e1]
  obtain ⟨a, c, rfl⟩ := q1.row.shape
  exact ⟨a, c, rfl, q1.row, q2⟩
theorem LX.len (h : LX X w rb k l W) : Calls Try.prog 14 #[.pointer (some ⟨rb, 0, none⟩)] W fun e w' => e = .returned (.int .i64 (l.length : Nat)) ∧ Below W.heap.size W w' := rx_len h.r
/-- All of them, told; the list stays whatever the records' own calls do. -/
theorem LI.was (h : LI w rb k l W) (hk : k ≤ 100) :
    Calls Try.prog 10 #[.pointer (some ⟨rb, 0, none⟩), .int .i64 0, .int .i64 (l.length : Nat)] W fun e w' => ∃ a c X, e = .returned (.tuple #[.slice a l.length c, .int .i64 0]) ∧ LX X w rb k l w' ∧ (∀ W', Off X w' W' → Lst W' (.slice a l.length c) l) := by
  have hn := h.p.n
  have hr : mrE l.length 0 (l.length : Nat) = 0 := mrE_iff.2 ⟨by omega, by omega, by omega⟩
  have hov : ovL l 0 (l.length : Nat) = l := by unfold ovL; rw [if_pos hr]; unfold part; simp
  refine (rx_over h.r (by omega) 0 (l.length : Nat)).mono ?_
  rintro e w' ⟨v, ss, rfl, q1, q2, q3⟩
  rw [hov] at q2
  have hsh := Lst.of q1 q2
  obtain ⟨a, c, rfl⟩ := hsh.shape
  have hz := h.b.size
  have hz2 := q3.size
  refine ⟨a, c, fun q => w.heap.size ≤ q ∧ ¬ (W.heap.size ≤ q ∧ q < w'.heap.size), by rw [hr], ⟨(h.r.mono (fun q hq hx => ⟨hx, by omega⟩)).below q3, fun q hq => ⟨by omega, by omega⟩, below_add h.b q3 hz, fun q hq => hq.1, h.p⟩, fun W' ho => Lst.of (q1.off ho ?_ ?_) q2⟩
  · intro g hg hx
    exact hx.2 ⟨own_base q1.row hg, own_lt7 q1.row hg⟩
  · intro g hg hlt _ hx
    exact hx.2 ⟨hg, hlt⟩
end
end Go.Proofs.Yteodfbkfpboehaa
