
import Derived.Test.YtjgfgpkaeddjhaaU3
import Derived.Test.YtjgfgpkaeddjhaaU1
/- UL -/
/- UL: runes put into a rope; what Insert and Delete answer at whatever place -/
namespace Go.Proofs.Ytjgfgpkaeddjhaa
open Go.RowKit
set_option linter.unusedVariables false
set_option maxRecDepth 100000
section
variable {S S' : Nat → Prop} {tb rb n0 : Nat} {l m : List Int} {w w' w0 W : World} {xs : List Ck} {u : Value}
theorem rowk_own (h : w.ownsRow n0 58 32 u xs.length (fl CkC xs)) (hS : ∀ g, u.ownBlock = some g → ¬ S g) : RowK S w u xs := fun W hW =>
  (Row.of_owns (C := CkC) (owns_kept h (fun g hg => hW.block g (own_lt7 h hg) (hS g hg)))).1
set_option maxHeartbeats 1000000 in
theorem rope_insert (h : Rp S rb l w) (hlt : ∀ k, S k → k < w.heap.size) (hQ : l.length + m.length + 64 ≤ 400000) (i : Nat) (hi : i ≤ l.length) (v : Value) (hv : Ints .i32 w v m) (hc : m.all code = true) :
    Calls Try.prog 16 #[.pointer (some ⟨rb, 0, none⟩), .int .i64 (i : Nat), v] w fun e w' => e = .returned (.int .i64 0) ∧ Rp (fun k => UpS S w k ∧ k < w'.heap.size) rb (l.take i ++ (m ++ l.drop i)) w' ∧ Off S w w' := by
  have HCUT := Lib.hid (cut_any v m w hv (by omega))
  obtain ⟨a, cap, rfl⟩ := hv.shape
  have HRE := Lib.hid (fun (w' : World) (hb : Below w.heap.size w w') => rope_reach (h.below hb) (i : Nat) (i : Nat))
  rw [reach_yes (Nat.le_refl i) hi] at HRE
  have HL := Lib.hid (fun (w' : World) (hb : Below w.heap.size w w') => rope_len (h.below hb))
  have H0 := Lib.hid h
  have HLT := Lib.hid hlt
  have HQ := Lib.hid (And.intro hQ hi)
  obtain ⟨n1, hn1⟩ : ∃ n, l.length = n := ⟨_, rfl⟩
  rw [hn1] at HL hQ
  have u1 : 0 ≤ 536870912 - ((n1 : Nat) : Int) := by omega
  have u2 : 536870912 - ((n1 : Nat) : Int) ≤ 536870912 := by omega
  have d1 : decide (536870912 - ((n1 : Nat) : Int) < ((m.length : Nat) : Int)) = false := decide_eq_false (by omega)
  obtain ⟨n2, hn2⟩ : ∃ n, m.length = n := ⟨_, rfl⟩
  rw [hn2] at d1 HCUT ⊢
  clear h hQ hi hlt hv hn1
  go_enter Try.func16, Try.ntmps16
  go_wp2_with (first
    | (go_at_call 38; refine HCUT.out.mono ?_; clear HCUT; rintro e w1 ⟨bb, ⟨-, xs, u, n0, rfl, ef, hn, ow⟩ | ⟨hx, -⟩⟩; (rotate_left; (rw [hc] at hx; cases hx)); have B1 := Lib.hid bb; have EF := Lib.hid ef; have OW := Lib.hid (And.intro hn ow); clear bb ef hn ow)
    | (go_at_call 28; refine (HRE.out _ B1.out).mono ?_; clear HRE; rintro e w2 ⟨rfl, bb⟩; have B2 := Lib.hid (below_add B1.out bb B1.out.size); have OW2 := Lib.hid (And.intro OW.out.1 (owns_kept OW.out.2 (fun g hg => bb.block g (own_lt7 OW.out.2 hg)))); have Z2 := Lib.hid bb.size; clear bb)
    | (go_at_call 19; refine (HL.out _ B2.out).mono ?_; clear HL; rintro e w3 ⟨rfl, bb⟩; have B3 := Lib.hid (below_add B2.out bb B2.out.size); have OW3 := Lib.hid (And.intro OW2.out.1 (owns_kept OW2.out.2 (fun g hg => bb.block g (own_lt7 OW2.out.2 hg)))); have H3 := Lib.hid (H0.out.below (below_add B2.out bb B2.out.size)); clear bb)
    | (go_at_call 35; refine (rope_write H3.out).mono ?_; rintro e w4 ⟨tb, S', rfl, cc, ⟨R, q1, q2, q3⟩, hs, oo⟩; have C4 := Lib.hid cc; have T4 := Lib.hid q1; have E4 := Lib.hid q2; have HS4 := Lib.hid hs; have HW4 := Lib.hid q3; have O4 := Lib.hid oo; clear cc q1 q2 q3 hs oo)
    | (go_at_call 39; refine (splice_any (S := UpS S' _) R i i (Nat.le_refl i) (by rw [E4.out]; exact HQ.out.2) u xs (T4.out.mono (fun k hk => .inl hk)) (ups_up _ _) (rowk_own (n0 := n0) (owns_kept OW3.out.2 (fun g hg => O4.out.block g (own_lt7 OW3.out.2 hg) (fun hk => by
        have a1 := HLT.out g hk
        have a2 := own_base OW3.out.2 hg
        have a3 := OW3.out.1
        omega))) (fun g hg hk => by
        have a1 := own_lt7 OW3.out.2 hg
        have a2 := own_base OW3.out.2 hg
        have a3 := OW3.out.1
        have a4 := O4.out.size
        rcases hk with hk | hk
        · rcases (HS4.out g hk).1 with h | h
          · have := HLT.out g h; omega
          · omega
        · omega)) (by rw [EF.out]; have := HQ.out; omega)).mono ?_; rintro e w5 ⟨rfl, R', q1, q2, oo⟩; have E5 := Lib.hid q1; have T5 := Lib.hid q2; have O5 := Lib.hid oo; clear q1 q2 oo))
  go_ret
  have hz3 := B3.out.size
  have hz4 := O4.out.size
  have hs : ∀ k, _ → UpS S w k ∧ k ≠ rb := fun k hk => ⟨(HS4.out k hk).1.elim .inl (fun h => .inr (by omega)), (HS4.out k hk).2⟩
  have hr := Rp.remade (S := UpS S w) C4.out hs (.inl H0.out.mem.1) (fun k hk => .inr (by omega)) R' T5.out O5.out
  rw [E5.out, E4.out, EF.out] at hr
  exact ⟨rfl, hr.1.cut, (((Off.below_l B3.out O4.out).mono (fun k hk => .inl hk)).seq hr.2).unup⟩
/-- Why there is nothing put in. -/
def insE (l m : List Int) (i : Int) : Int := if m.all code = true then reachE l.length i i else 3
def insL (l m : List Int) (i : Int) : List Int := if insE l m i = 0 then l.take i.toNat ++ (m ++ l.drop i.toNat) else l
theorem rope_insertBad (h : Rp S rb l w) (i : Int) (hQ : m.length ≤ 400000) (v : Value) (hv : Ints .i32 w v m) (hc : m.all code = false) :
    Calls Try.prog 16 #[.pointer (some ⟨rb, 0, none⟩), .int .i64 i, v] w fun e w' => e = .returned (.int .i64 3) ∧ Below w.heap.size w w' := by
  have HCUT := Lib.hid (cut_any v m w hv hQ)
  obtain ⟨a, cap, rfl⟩ := hv.shape
  obtain ⟨n2, hn2⟩ : ∃ n, m.length = n := ⟨_, rfl⟩
  rw [hn2] at HCUT ⊢
  clear h hQ hv
  go_enter Try.func16, Try.ntmps16
  go_wp2_with (go_at_call 38; refine HCUT.out.mono ?_; clear HCUT; rintro e w1 ⟨bb, ⟨hx, -⟩ | ⟨-, rfl⟩⟩; ((rw [hc] at hx; cases hx)); have B1 := Lib.hid bb; clear bb)
  go_ret
  exact ⟨rfl, B1.out⟩
theorem rope_insertNo (h : Rp S rb l w) (i : Int) (hi : ¬ (0 ≤ i ∧ i ≤ (l.length : Nat))) (hQ : m.length ≤ 400000) (v : Value) (hv : Ints .i32 w v m) (hc : m.all code = true) :
    Calls Try.prog 16 #[.pointer (some ⟨rb, 0, none⟩), .int .i64 i, v] w fun e w' => e = .returned (.int .i64 5) ∧ Below w.heap.size w w' := by
  have HCUT := Lib.hid (cut_any v m w hv hQ)
  have HRE := Lib.hid (fun (w' : World) (hb : Below w.heap.size w w') => rope_reach (h.below hb) i i)
  rw [reach_no (by omega)] at HRE
  obtain ⟨a, cap, rfl⟩ := hv.shape
  obtain ⟨n2, hn2⟩ : ∃ n, m.length = n := ⟨_, rfl⟩
  rw [hn2] at HCUT ⊢
  clear h hQ hv hi
  go_enter Try.func16, Try.ntmps16
  go_wp2_with (first
    | (go_at_call 38; refine HCUT.out.mono ?_; clear HCUT; rintro e w1 ⟨bb, ⟨-, xs, u, n0, rfl, ef, hn, ow⟩ | ⟨hx, -⟩⟩; (rotate_left; (rw [hc] at hx; cases hx)); have B1 := Lib.hid bb; clear bb ef hn ow)
    | (go_at_call 28; refine (HRE.out _ B1.out).mono ?_; clear HRE; rintro e w2 ⟨rfl, bb⟩; have B2 := Lib.hid (below_add B1.out bb B1.out.size); clear bb))
  go_ret
  exact ⟨rfl, B2.out⟩
theorem reachE_eq {n : Nat} {i j : Int} : reachE n i j = 0 ↔ 0 ≤ i ∧ i ≤ j ∧ j ≤ n := by
  unfold reachE
  split <;> simp_all
/-- Insert, at whatever place, of whatever numbers. -/
theorem rope_ins (h : Rp S rb l w) (hlt : ∀ k, S k → k < w.heap.size) (hQ : l.length + m.length + 64 ≤ 400000) (i : Int) (v : Value) (hv : Ints .i32 w v m) :
    Calls Try.prog 16 #[.pointer (some ⟨rb, 0, none⟩), .int .i64 i, v] w fun e w' => e = .returned (.int .i64 (insE l m i)) ∧ ∃ S', Rp S' rb (insL l m i) w' ∧ (∀ k, S' k → UpS S w k ∧ k < w'.heap.size) ∧ Off S w w' := by
  by_cases hc : m.all code = true
  · by_cases hr : 0 ≤ i ∧ i ≤ (l.length : Nat)
    · obtain ⟨k, rfl⟩ : ∃ k : Nat, i = (k : Nat) := ⟨i.toNat, by omega⟩
      have he : insE l m ((k : Nat) : Int) = 0 := by unfold insE; rw [if_pos hc, reach_yes (Nat.le_refl k) (by omega)]
      refine (rope_insert h hlt hQ k (by omega) v hv hc).mono ?_
      rintro e w' ⟨rfl, q1, q2⟩
      refine ⟨by rw [he], _, ?_, fun k hk => hk, q2⟩
      unfold insL
      rw [if_pos he]
      exact q1
    · have he : insE l m i = 5 := by unfold insE; rw [if_pos hc, reach_no (by omega)]
      refine (rope_insertNo h i hr (by omega) v hv hc).mono ?_
      rintro e w' ⟨rfl, q1⟩
      refine ⟨by rw [he], S, ?_, fun k hk => ⟨.inl hk, Nat.lt_of_lt_of_le (hlt k hk) q1.size⟩, Off.of_below q1⟩
      unfold insL
      rw [if_neg (by rw [he]; decide)]
      exact h.below q1
  · have hc' : m.all code = false := by simpa using hc
    have he : insE l m i = 3 := by unfold insE; rw [if_neg hc]
    refine (rope_insertBad h i (by omega) v hv hc').mono ?_
    rintro e w' ⟨rfl, q1⟩
    refine ⟨by rw [he], S, ?_, fun k hk => ⟨.inl hk, Nat.lt_of_lt_of_le (hlt k hk) q1.size⟩, Off.of_below q1⟩
    unfold insL
    rw [if_neg (by rw [he]; decide)]
    exact h.below q1
def delL (l : List Int) (i j : Int) : List Int := if reachE l.length i j = 0 then l.take i.toNat ++ l.drop j.toNat else l
/-- Delete, at whatever places. -/
theorem rope_del (h : Rp S rb l w) (hlt : ∀ k, S k → k < w.heap.size) (hQ : l.length + 64 ≤ 400000) (i j : Int) :
    Calls Try.prog 17 #[.pointer (some ⟨rb, 0, none⟩), .int .i64 i, .int .i64 j] w fun e w' => e = .returned (.int .i64 (reachE l.length i j)) ∧ ∃ S', Rp S' rb (delL l i j) w' ∧ (∀ k, S' k → UpS S w k ∧ k < w'.heap.size) ∧ Off S w w' := by
  by_cases hr : 0 ≤ i ∧ i ≤ j ∧ j ≤ (l.length : Nat)
  · have he : reachE l.length i j = 0 := reachE_eq.2 hr
    obtain ⟨p, rfl⟩ : ∃ k : Nat, i = (k : Nat) := ⟨i.toNat, by omega⟩
    obtain ⟨q, rfl⟩ : ∃ k : Nat, j = (k : Nat) := ⟨j.toNat, by omega⟩
    refine (rope_delete (S := UpS S w) (h.mono (fun k hk => .inl hk)) (ups_up _ _) (by omega) p q (by omega) (by omega)).mono ?_
    rintro e w' ⟨rfl, q1, q2⟩
    refine ⟨by rw [he], _, ?_, fun k hk => hk, q2.unup⟩
    unfold delL
    rw [if_pos he]
    exact q1.cut
  · have he : reachE l.length i j = 5 := reach_no hr
    refine (rope_deleteNo h i j hr).mono ?_
    rintro e w' ⟨rfl, q1⟩
    refine ⟨by rw [he], S, ?_, fun k hk => ⟨.inl hk, Nat.lt_of_lt_of_le (hlt k hk) q1.size⟩, Off.of_below q1⟩
    unfold delL
    rw [if_neg (by rw [he]; decide)]
    exact h.below q1
end
end Go.Proofs.Ytjgfgpkaeddjhaa

/- UM -/
/- UM: ropes as a law's variables; known -/
namespace Go.Proofs.Ytjgfgpkaeddjhaa
open Go.RowKit
set_option linter.unusedVariables false
set_option maxRecDepth 100000

/-- A rope of the runes l at rb, in blocks from B on. -/
def RV (B rb : Nat) (l : List Int) (W : World) : Prop := ∃ S : Nat → Prop, Rp S rb l W ∧ ∀ k, S k → B ≤ k ∧ k < W.heap.size
/-- Two ropes that have no block in common. -/
def R2 (B rb : Nat) (l : List Int) (sb : Nat) (m : List Int) (W : World) : Prop := ∃ S T : Nat → Prop, Rp S rb l W ∧ Rp T sb m W ∧ (∀ k, S k → B ≤ k ∧ k < W.heap.size) ∧ (∀ k, T k → B ≤ k ∧ k < W.heap.size) ∧ ∀ k, S k → ¬ T k
section
variable {B rb sb : Nat} {l m x : List Int} {w w' W : World}
theorem RV.below (h : RV B rb l w) (hb : Below w.heap.size w w') : RV B rb l w' := by
  obtain ⟨S, h1, h2⟩ := h
  exact ⟨S, h1.below hb, fun k hk => ⟨(h2 k hk).1, Nat.lt_of_lt_of_le (h2 k hk).2 hb.size⟩⟩
theorem RV.alloc (h : RV B rb l w) (o : Obj) : RV B rb l (w.alloc o) := h.below ((Below.refl _ _).alloc (Nat.le_refl _) o)
theorem RV.hB (h : RV B rb l w) : B ≤ w.heap.size := by
  obtain ⟨S, h1, h2⟩ := h
  have := h2 _ h1.mem.1
  omega
theorem R2.below (h : R2 B rb l sb m w) (hb : Below w.heap.size w w') : R2 B rb l sb m w' := by
  obtain ⟨S, T, h1, h2, h3, h4, h5⟩ := h
  exact ⟨S, T, h1.below hb, h2.below hb, fun k hk => ⟨(h3 k hk).1, Nat.lt_of_lt_of_le (h3 k hk).2 hb.size⟩, fun k hk => ⟨(h4 k hk).1, Nat.lt_of_lt_of_le (h4 k hk).2 hb.size⟩, h5⟩
theorem R2.fst (h : R2 B rb l sb m w) : RV B rb l w := by
  obtain ⟨S, T, h1, h2, h3, h4, h5⟩ := h
  exact ⟨S, h1, h3⟩
theorem R2.snd (h : R2 B rb l sb m w) : RV B sb m w := by
  obtain ⟨S, T, h1, h2, h3, h4, h5⟩ := h
  exact ⟨T, h2, h4⟩
theorem R2.swap (h : R2 B rb l sb m w) : R2 B sb m rb l w := by
  obtain ⟨S, T, h1, h2, h3, h4, h5⟩ := h
  exact ⟨T, S, h2, h1, h4, h3, fun k h h' => h5 k h' h⟩
theorem rv_new (w : World) (hB : B ≤ w.heap.size) : Calls Try.prog 23 #[] w fun e w' => ∃ rb : Nat, e = .returned (.pointer (some ⟨rb, 0, none⟩)) ∧ RV B rb [] w' ∧ Below w.heap.size w w' := by
  refine (rope_new w).mono ?_
  rintro e w' ⟨rb, rfl, h, hb⟩
  exact ⟨rb, rfl, ⟨_, h, fun k hk => ⟨Nat.le_trans hB hk.1, hk.2⟩⟩, hb⟩
theorem rv_new2 (h : RV B rb l w) : Calls Try.prog 23 #[] w fun e w' => ∃ sb : Nat, e = .returned (.pointer (some ⟨sb, 0, none⟩)) ∧ R2 B rb l sb [] w' ∧ Below w.heap.size w w' := by
  have hB := h.hB
  obtain ⟨S, h1, h2⟩ := h
  refine (rope_new w).mono ?_
  rintro e w' ⟨sb, rfl, h, hb⟩
  refine ⟨sb, rfl, ⟨S, _, h1.below hb, h, fun k hk => ⟨(h2 k hk).1, Nat.lt_of_lt_of_le (h2 k hk).2 hb.size⟩, fun k hk => ⟨Nat.le_trans hB hk.1, hk.2⟩, fun k h h' => ?_⟩, hb⟩
  have := (h2 k h).2
  have := h'.1
  omega
theorem rv_ins (h : RV B rb l w) (hQ : l.length + m.length + 64 ≤ 400000) (i : Int) (v : Value) (hv : Ints .i32 w v m) :
    Calls Try.prog 16 #[.pointer (some ⟨rb, 0, none⟩), .int .i64 i, v] w fun e w' => e = .returned (.int .i64 (insE l m i)) ∧ RV B rb (insL l m i) w' ∧ Below B w w' := by
  have hB := h.hB
  obtain ⟨S, h1, h2⟩ := h
  refine (rope_ins h1 (fun k hk => (h2 k hk).2) hQ i v hv).mono ?_
  rintro e w' ⟨rfl, S', q1, q2, q3⟩
  exact ⟨rfl, ⟨S', q1, fun k hk => ⟨(q2 k hk).1.elim (fun h => (h2 k h).1) (fun h => Nat.le_trans hB h), (q2 k hk).2⟩⟩, q3.below (fun k hk => (h2 k hk).1) hB⟩
theorem rv_del (h : RV B rb l w) (hQ : l.length + 64 ≤ 400000) (i j : Int) :
    Calls Try.prog 17 #[.pointer (some ⟨rb, 0, none⟩), .int .i64 i, .int .i64 j] w fun e w' => e = .returned (.int .i64 (reachE l.length i j)) ∧ RV B rb (delL l i j) w' ∧ Below B w w' := by
  have hB := h.hB
  obtain ⟨S, h1, h2⟩ := h
  refine (rope_del h1 (fun k hk => (h2 k hk).2) hQ i j).mono ?_
  rintro e w' ⟨rfl, S', q1, q2, q3⟩
  exact ⟨rfl, ⟨S', q1, fun k hk => ⟨(q2 k hk).1.elim (fun h => (h2 k h).1) (fun h => Nat.le_trans hB h), (q2 k hk).2⟩⟩, q3.below (fun k hk => (h2 k hk).1) hB⟩
theorem r2_ins (h : R2 B rb l sb m w) (hQ : l.length + x.length + 64 ≤ 400000) (i : Int) (v : Value) (hv : Ints .i32 w v x) :
    Calls Try.prog 16 #[.pointer (some ⟨rb, 0, none⟩), .int .i64 i, v] w fun e w' => e = .returned (.int .i64 (insE l x i)) ∧ R2 B rb (insL l x i) sb m w' ∧ Below B w w' := by
  have hB := h.fst.hB
  obtain ⟨S, T, h1, h2, h3, h4, h5⟩ := h
  refine (rope_ins h1 (fun k hk => (h3 k hk).2) hQ i v hv).mono ?_
  rintro e w' ⟨rfl, S', q1, q2, q3⟩
  refine ⟨rfl, ⟨S', T, q1, h2.off q3 (fun k hk hs => h5 k hs hk), fun k hk => ⟨(q2 k hk).1.elim (fun h => (h3 k h).1) (fun h => Nat.le_trans hB h), (q2 k hk).2⟩, fun k hk => ⟨(h4 k hk).1, Nat.lt_of_lt_of_le (h4 k hk).2 q3.size⟩, fun k hk ht => ?_⟩, q3.below (fun k hk => (h3 k hk).1) hB⟩
  rcases (q2 k hk).1 with h | h
  · exact h5 k h ht
  · have := (h4 k ht).2; omega
theorem r2_del (h : R2 B rb l sb m w) (hQ : l.length + 64 ≤ 400000) (i j : Int) :
    Calls Try.prog 17 #[.pointer (some ⟨rb, 0, none⟩), .int .i64 i, .int .i64 j] w fun e w' => e = .returned (.int .i64 (reachE l.length i j)) ∧ R2 B rb (delL l i j) sb m w' ∧ Below B w w' := by
  have hB := h.fst.hB
  obtain ⟨S, T, h1, h2, h3, h4, h5⟩ := h
  refine (rope_del h1 (fun k hk => (h3 k hk).2) hQ i j).mono ?_
  rintro e w' ⟨rfl, S', q1, q2, q3⟩
  refine ⟨rfl, ⟨S', T, q1, h2.off q3 (fun k hk hs => h5 k hs hk), fun k hk => ⟨(q2 k hk).1.elim (fun h => (h3 k h).1) (fun h => Nat.le_trans hB h), (q2 k hk).2⟩, fun k hk => ⟨(h4 k hk).1, Nat.lt_of_lt_of_le (h4 k hk).2 q3.size⟩, fun k hk ht => ?_⟩, q3.below (fun k hk => (h3 k hk).1) hB⟩
  rcases (q2 k hk).1 with h | h
  · exact h5 k h ht
  · have := (h4 k ht).2; omega
theorem rv_len (h : RV B rb l w) : Calls Try.prog 19 #[.pointer (some ⟨rb, 0, none⟩)] w fun e w' => e = .returned (.int .i64 (l.length : Nat)) ∧ Below w.heap.size w w' := by
  obtain ⟨S, h1, h2⟩ := h
  exact rope_len h1
theorem rv_newlines (h : RV B rb l w) : Calls Try.prog 20 #[.pointer (some ⟨rb, 0, none⟩)] w fun e w' => e = .returned (.int .i64 (nl l : Nat)) ∧ Below w.heap.size w w' := by
  obtain ⟨S, h1, h2⟩ := h
  exact rope_newlines h1
theorem rv_lineOf (h : RV B rb l w) (hQ : l.length ≤ 400000) (i : Nat) (hi : i ≤ l.length) : Calls Try.prog 12 #[.pointer (some ⟨rb, 0, none⟩), .int .i64 (i : Nat)] w fun e w' => e = .returned (.tuple #[.int .i64 (nl (l.take i) : Nat), .int .i64 0]) ∧ Below w.heap.size w w' := by
  obtain ⟨S, h1, h2⟩ := h
  exact rope_lineOf h1 hQ i hi
theorem rv_lineofNo (h : RV B rb l w) (i : Int) (hi : ¬ (0 ≤ i ∧ i ≤ (l.length : Nat))) : Calls Try.prog 12 #[.pointer (some ⟨rb, 0, none⟩), .int .i64 i] w fun e w' => e = .returned (.tuple #[.int .i64 0, .int .i64 5]) ∧ Below w.heap.size w w' := by
  obtain ⟨S, h1, h2⟩ := h
  exact rope_lineofNo h1 i hi
theorem starts_zero (l : List Int) : Starts l 0 0 := ⟨Nat.zero_le _, by simp [nl], fun _ => rfl, fun h => absurd h (by omega)⟩
/-- OffsetOf, of a line that there is. -/
theorem rv_offset (h : RV B rb l w) (hQ : l.length ≤ 400000) (n : Nat) (hn : n ≤ nl l) : Calls Try.prog 13 #[.pointer (some ⟨rb, 0, none⟩), .int .i64 (n : Nat)] w fun e w' => ∃ o : Nat, e = .returned (.tuple #[.int .i64 (o : Nat), .int .i64 0]) ∧ Starts l n o ∧ Below w.heap.size w w' := by
  obtain ⟨S, h1, h2⟩ := h
  cases n with
  | zero =>
    refine (rope_offset0 h1).mono ?_
    rintro e w' ⟨rfl, hb⟩
    exact ⟨0, rfl, starts_zero l, hb⟩
  | succ m => exact rope_offset h1 hQ m (by omega)
theorem rv_offsetNo (h : RV B rb l w) (k : Int) (hk : (nl l : Int) < k) : Calls Try.prog 13 #[.pointer (some ⟨rb, 0, none⟩), .int .i64 k] w fun e w' => e = .returned (.tuple #[.int .i64 0, .int .i64 5]) ∧ Below w.heap.size w w' := by
  obtain ⟨S, h1, h2⟩ := h
  exact rope_offsetNo h1 k hk
theorem rv_at (h : RV B rb l w) (hQ : l.length ≤ 400000) (i : Nat) (hi : i < l.length) : Calls Try.prog 10 #[.pointer (some ⟨rb, 0, none⟩), .int .i64 (i : Nat)] w fun e w' => e = .returned (.tuple #[.int .i32 (l.getD i 0), .int .i64 0]) ∧ Below w.heap.size w w' := by
  obtain ⟨S, h1, h2⟩ := h
  exact rope_at h1 hQ i hi

/-! known -/
theorem kn_ins0 (h : RV B rb [] w) (v : Value) (hv : Ints .i32 w v [97, 99]) : Calls Try.prog 16 #[.pointer (some ⟨rb, 0, none⟩), .int .i64 0, v] w fun e w' => e = .returned (.int .i64 0) ∧ RV B rb [97, 99] w' ∧ Below B w w' := rv_ins h (by decide) 0 v hv
theorem kn_ins1 (h : RV B rb [97, 99] w) (v : Value) (hv : Ints .i32 w v [98, 10]) : Calls Try.prog 16 #[.pointer (some ⟨rb, 0, none⟩), .int .i64 1, v] w fun e w' => e = .returned (.int .i64 0) ∧ RV B rb [97, 98, 10, 99] w' ∧ Below B w w' := rv_ins h (by decide) 1 v hv
theorem kn_len (h : RV B rb [97, 98, 10, 99] w) : Calls Try.prog 19 #[.pointer (some ⟨rb, 0, none⟩)] w fun e w' => e = .returned (.int .i64 4) ∧ Below w.heap.size w w' := rv_len h
theorem kn_newlines (h : RV B rb [97, 98, 10, 99] w) : Calls Try.prog 20 #[.pointer (some ⟨rb, 0, none⟩)] w fun e w' => e = .returned (.int .i64 1) ∧ Below w.heap.size w w' := rv_newlines h
theorem kn_line2 (h : RV B rb [97, 98, 10, 99] w) : Calls Try.prog 12 #[.pointer (some ⟨rb, 0, none⟩), .int .i64 2] w fun e w' => e = .returned (.tuple #[.int .i64 0, .int .i64 0]) ∧ Below w.heap.size w w' := rv_lineOf h (by decide) 2 (by decide)
theorem kn_line3 (h : RV B rb [97, 98, 10, 99] w) : Calls Try.prog 12 #[.pointer (some ⟨rb, 0, none⟩), .int .i64 3] w fun e w' => e = .returned (.tuple #[.int .i64 1, .int .i64 0]) ∧ Below w.heap.size w w' := rv_lineOf h (by decide) 3 (by decide)
theorem kn_off1 (h : RV B rb [97, 98, 10, 99] w) : Calls Try.prog 13 #[.pointer (some ⟨rb, 0, none⟩), .int .i64 1] w fun e w' => e = .returned (.tuple #[.int .i64 3, .int .i64 0]) ∧ Below w.heap.size w w' := by
  refine Calls.mono (rv_offset h (by decide) 1 (by decide)) ?_
  rintro e w' ⟨o, rfl, hs, hb⟩
  have h3 : Starts [97, 98, 10, 99] 1 3 := ⟨by decide, by decide, fun h => absurd h (by decide), fun _ => ⟨by decide, by decide, by decide⟩⟩
  rw [hs.one h3]
  exact ⟨rfl, hb⟩
theorem kn_off2 (h : RV B rb [97, 98, 10, 99] w) : Calls Try.prog 13 #[.pointer (some ⟨rb, 0, none⟩), .int .i64 2] w fun e w' => e = .returned (.tuple #[.int .i64 0, .int .i64 5]) ∧ Below w.heap.size w w' := rv_offsetNo h 2 (by decide)
theorem kn_del (h : RV B rb [97, 98, 10, 99] w) : Calls Try.prog 17 #[.pointer (some ⟨rb, 0, none⟩), .int .i64 1, .int .i64 3] w fun e w' => e = .returned (.int .i64 0) ∧ RV B rb [97, 99] w' ∧ Below B w w' := rv_del h (by decide) 1 3
theorem kn_len2 (h : RV B rb [97, 99] w) : Calls Try.prog 19 #[.pointer (some ⟨rb, 0, none⟩)] w fun e w' => e = .returned (.int .i64 2) ∧ Below w.heap.size w w' := rv_len h
set_option maxHeartbeats 2000000 in
theorem known10_any (w : World) : Calls Try.prog 9 #[] w fun e w' => e = .returned (.bool true) ∧ Below w.heap.size w w' := by
  have HN := Lib.hid (rv_new (B := w.heap.size) w (Nat.le_refl _))
  go_enter Try.func9, Try.ntmps9
  go_wp2_with (first
    | (go_at_call 23; refine HN.out.mono ?_; clear HN; rintro e w1 ⟨rb, rfl, q1, bb⟩; have R1 := Lib.hid (q1.alloc (.cells #[.int .i32 97, .int .i32 99] 21)); have V1 := Lib.hid (show Ints .i32 (w1.alloc (.cells #[.int .i32 97, .int .i32 99] 21)) (.slice (some ⟨w1.heap.size, 0, none⟩) 2 2) [97, 99] from ints_built .i32 w1 21 [97, 99] (by decide)); have B1 := Lib.hid (bb.alloc bb.size (.cells #[.int .i32 97, .int .i32 99] 21)); clear q1 bb)
    | (go_at_call 16; (with_reducible refine (kn_ins0 R1.out _ V1.out).mono ?_); rintro e w2 ⟨rfl, q1, bb⟩; have R2 := Lib.hid (q1.alloc (.cells #[.int .i32 98, .int .i32 10] 21)); have V2 := Lib.hid (show Ints .i32 (w2.alloc (.cells #[.int .i32 98, .int .i32 10] 21)) (.slice (some ⟨w2.heap.size, 0, none⟩) 2 2) [98, 10] from ints_built .i32 w2 21 [98, 10] (by decide)); have B2 := Lib.hid ((B1.out.trans bb).alloc (B1.out.trans bb).size (.cells #[.int .i32 98, .int .i32 10] 21)); clear q1 bb)
    | (go_at_call 16; (with_reducible refine (kn_ins1 R2.out _ V2.out).mono ?_); rintro e w3 ⟨rfl, q1, bb⟩; have R3 := Lib.hid q1; have B3 := Lib.hid (B2.out.trans bb); clear q1 bb V1 R1 B1)
    | (go_at_call 19; (with_reducible refine (kn_len R3.out).mono ?_); rintro e w4 ⟨rfl, bb⟩; have R4 := Lib.hid (R3.out.below bb); have B4 := Lib.hid (below_add B3.out bb B3.out.size); clear bb R2 V2 B2)
    | (go_at_call 20; (with_reducible refine (kn_newlines R4.out).mono ?_); rintro e w5 ⟨rfl, bb⟩; have R5 := Lib.hid (R4.out.below bb); have B5 := Lib.hid (below_add B4.out bb B4.out.size); clear bb R3 B3)
    | (go_at_call 12; (with_reducible refine (kn_line2 R5.out).mono ?_); rintro e w6 ⟨rfl, bb⟩; have R6 := Lib.hid (R5.out.below bb); have B6 := Lib.hid (below_add B5.out bb B5.out.size); clear bb)
    | (go_at_call 12; (with_reducible refine (kn_line3 R6.out).mono ?_); rintro e w7 ⟨rfl, bb⟩; have R7 := Lib.hid (R6.out.below bb); have B7 := Lib.hid (below_add B6.out bb B6.out.size); clear bb)
    | (go_at_call 13; (with_reducible refine (kn_off1 R7.out).mono ?_); rintro e w8 ⟨rfl, bb⟩; have R8 := Lib.hid (R7.out.below bb); have B8 := Lib.hid (below_add B7.out bb B7.out.size); clear bb)
    | (go_at_call 13; (with_reducible refine (kn_off2 R8.out).mono ?_); rintro e w9 ⟨rfl, bb⟩; have R9 := Lib.hid (R8.out.below bb); have B9 := Lib.hid (below_add B8.out bb B8.out.size); clear bb)
    | (go_at_call 17; (with_reducible refine (kn_del R9.out).mono ?_); rintro e wA ⟨rfl, q1, bb⟩; have RA := Lib.hid q1; have BA := Lib.hid (B9.out.trans bb); clear bb q1)
    | (go_at_call 19; (with_reducible refine (kn_len2 RA.out).mono ?_); rintro e wB ⟨rfl, bb⟩; have BB := Lib.hid (below_add BA.out bb BA.out.size); clear bb))
  go_ret
  exact ⟨rfl, BB.out⟩
end
end Go.Proofs.Ytjgfgpkaeddjhaa
