
import Derived.Test.YtjgfgpkaeddjhaaTY
/- TZ: a rope's lines, a rune of it; runes taken out -/
namespace Go.Proofs.Ytjgfgpkaeddjhaa
open Go.RowKit
set_option linter.unusedVariables false
set_option maxRecDepth 100000

/-- Where a line begins. -/
def Starts (l : List Int) (n o : Nat) : Prop := o ≤ l.length ∧ nl (l.take o) = n ∧ (n = 0 → o = 0) ∧ (0 < n → 0 < o ∧ l.getD (o - 1) 0 = 10 ∧ nl (l.take (o - 1)) + 1 = n)
section
variable {S : Nat → Prop} {tb rb : Nat} {l : List Int} {w w' W : World}
theorem rope_read2 (h : Rp S rb l w) (hQ : l.length ≤ 400000) : Calls Try.prog 25 #[.pointer (some ⟨rb, 0, none⟩)] w fun e w' => ∃ (tb : Nat) (S' : Nat → Prop) (R : TC), e = .returned (.pointer (some ⟨tb, 0, none⟩)) ∧ R.el Wc = l ∧ Sq l.length S' tb R.id [R] w' ∧ Below w.heap.size w w' := by
  refine (rope_read h).mono ?_
  rintro e w' ⟨tb, S', rfl, ⟨R, h1, h2, h3⟩, hb⟩
  exact ⟨tb, S', R, rfl, h2, h1, hb⟩
theorem reach_yes {n i j : Nat} (h1 : i ≤ j) (h2 : j ≤ n) : reachE n (i : Nat) (j : Nat) = 0 := by unfold reachE; rw [if_pos (by omega)]
theorem rope_lineOf (h : Rp S rb l w) (hQ : l.length ≤ 400000) (i : Nat) (hi : i ≤ l.length) : Calls Try.prog 12 #[.pointer (some ⟨rb, 0, none⟩), .int .i64 (i : Nat)] w fun e w' => e = .returned (.tuple #[.int .i64 (nl (l.take i) : Nat), .int .i64 0]) ∧ Below w.heap.size w w' := by
  have hr := rope_reach h (i : Nat) (i : Nat)
  rw [reach_yes (Nat.le_refl i) hi] at hr
  have HRE := Lib.hid hr
  have H0 := Lib.hid h
  have HQ := Lib.hid (And.intro hQ hi)
  clear h hQ hi hr
  go_enter Try.func12, Try.ntmps12
  go_wp2_with (first
    | (go_at_call 28; refine HRE.out.mono ?_; clear HRE; rintro e w1 ⟨rfl, bb⟩; have B1 := Lib.hid bb; have H1 := Lib.hid (H0.out.below bb); clear bb)
    | (go_at_call 25; refine (rope_read2 H1.out HQ.out.1).mono ?_; rintro e w2 ⟨tb, S', R, rfl, rfl, ss, bb⟩; have SS := Lib.hid ss; have B2 := Lib.hid (below_add B1.out bb B1.out.size); clear ss bb)
    | (go_at_call 31; refine (marksAhead_any R i SS.out HQ.out.1 HQ.out.2).mono ?_; rintro e w3 ⟨rfl, bb⟩; have B3 := Lib.hid (below_add B2.out bb B2.out.size); clear bb))
  go_ret2
  exact ⟨rfl, B3.out⟩
theorem rope_offset0 (h : Rp S rb l w) : Calls Try.prog 13 #[.pointer (some ⟨rb, 0, none⟩), .int .i64 0] w fun e w' => e = .returned (.tuple #[.int .i64 0, .int .i64 0]) ∧ Below w.heap.size w w' := by
  have HN := Lib.hid (rope_newlines h)
  obtain ⟨n, hn⟩ : ∃ n, nl l = n := ⟨_, rfl⟩
  rw [hn] at HN
  have d1 : decide (((n : Nat) : Int) < 0) = false := decide_eq_false (by omega)
  clear h hn
  go_enter Try.func13, Try.ntmps13
  go_wp2_with (go_at_call 20; refine HN.out.mono ?_; rintro e w1 ⟨rfl, bb⟩; have BB := Lib.hid bb; clear bb)
  go_ret2
  exact ⟨rfl, BB.out⟩
theorem rope_offsetNo (h : Rp S rb l w) (k : Int) (hk : (nl l : Int) < k) : Calls Try.prog 13 #[.pointer (some ⟨rb, 0, none⟩), .int .i64 k] w fun e w' => e = .returned (.tuple #[.int .i64 0, .int .i64 5]) ∧ Below w.heap.size w w' := by
  have HN := Lib.hid (rope_newlines h)
  obtain ⟨n, hn⟩ : ∃ n, nl l = n := ⟨_, rfl⟩
  rw [hn] at HN hk
  have d1 : decide (k < 0) = false := decide_eq_false (by omega)
  have d2 : decide (((n : Nat) : Int) < k) = true := decide_eq_true hk
  clear h hn hk
  go_enter Try.func13, Try.ntmps13
  go_wp2_with (go_at_call 20; refine HN.out.mono ?_; rintro e w1 ⟨rfl, bb⟩; have BB := Lib.hid bb; clear bb)
  go_ret2
  exact ⟨rfl, BB.out⟩
theorem starts_of {l : List Int} {m j : Nat} (h1 : j < l.length) (h2 : l.getD j 0 = 10) (h3 : nl (l.take j) = m) : Starts l (m + 1) (j + 1) := by
  refine ⟨by omega, ?_, fun h => by omega, fun _ => ⟨by omega, by simpa using h2, by simp; exact h3⟩⟩
  rw [List.take_add_one, nl_app, h3, List.getElem?_eq_getElem h1]
  rw [List.getD_eq_getElem?_getD, List.getElem?_eq_getElem h1] at h2
  simp at h2
  simp [nl, h2]
theorem rope_offset (h : Rp S rb l w) (hQ : l.length ≤ 400000) (m : Nat) (hm : m < nl l) : Calls Try.prog 13 #[.pointer (some ⟨rb, 0, none⟩), .int .i64 ((m + 1 : Nat) : Nat)] w fun e w' => ∃ o : Nat, e = .returned (.tuple #[.int .i64 (o : Nat), .int .i64 0]) ∧ Starts l (m + 1) o ∧ Below w.heap.size w w' := by
  have HN := Lib.hid (rope_newlines h)
  have H0 := Lib.hid h
  have HQ := Lib.hid (And.intro hQ hm)
  obtain ⟨n, hn⟩ : ∃ n, nl l = n := ⟨_, rfl⟩
  rw [hn] at HN
  obtain ⟨k, hk⟩ : ∃ k : Int, ((m + 1 : Nat) : Int) = k := ⟨_, rfl⟩
  rw [hk]
  have hle := nl_le l
  have d1 : decide (k < 0) = false := decide_eq_false (by omega)
  have d2 : decide (((n : Nat) : Int) < k) = false := decide_eq_false (by omega)
  have d3 : (k == 0) = false := by rw [beq_eq_false_iff_ne]; omega
  have e1 : k - 1 = ((m : Nat) : Int) := by omega
  have u1 : 0 ≤ k - 1 := by omega
  have u2 : k - 1 ≤ 400000 := by omega
  have U5 := Lib.hid (show m ≤ 400000 by omega)
  clear h hn hQ hm hk hle
  go_enter Try.func13, Try.ntmps13
  go_wp2_with (first
    | (go_at_call 20; refine HN.out.mono ?_; clear HN; rintro e w1 ⟨rfl, bb⟩; have B1 := Lib.hid bb; have H1 := Lib.hid (H0.out.below bb); clear bb)
    | (go_at_call 25; refine (rope_read2 H1.out HQ.out.1).mono ?_; rintro e w2 ⟨tb, S', R, rfl, rfl, ss, bb⟩; have SS := Lib.hid ss; have B2 := Lib.hid (below_add B1.out bb B1.out.size); clear ss bb)
    | (go_at_call 33; refine (markAt_any R m SS.out HQ.out.1 HQ.out.2).mono ?_; rintro e w3 ⟨j, rfl, j1, j2, j3, bb⟩; have HJ := Lib.hid (And.intro j1 (And.intro j2 j3)); have u3 : 0 ≤ ((j : Nat) : Int) + 1 := (by omega); have u4 : ((j : Nat) : Int) + 1 ≤ 400001 := (by have := HQ.out.1; omega); have B3 := Lib.hid (below_add B2.out bb B2.out.size); clear bb j1 j2 j3))
  go_ret2
  exact ⟨j + 1, by rw [show (((j + 1 : Nat) : Nat) : Int) = ((j : Nat) : Int) + 1 by omega] <;> rfl, starts_of HJ.out.1 HJ.out.2.1 HJ.out.2.2, B3.out⟩
theorem treeAt2 (R : TC) (k : Nat) {Q : Nat} (h : Sq Q S tb R.id [R] w) (hQ : Q ≤ 400000) (hk : k < (R.el Wc).length) :
    Calls Try.prog 26 #[.pointer (some ⟨tb, 0, none⟩), .int .i64 (k : Nat)] w fun e w' => ∃ (cx : Array Value) (j : Nat), e = .returned (.tuple #[.agg cx, .int .i64 (j : Nat)]) ∧ cx.size = 32 ∧ cx.all (·.oneCell') = true ∧ (∀ w : World, Calls Try.prog 27 #[.agg cx, .int .i64 (j : Nat)] w fun e w' => e = .returned (.tuple #[.int .i32 ((R.el Wc).getD k 0), .int .i64 0]) ∧ Below w.heap.size w w') ∧ Below w.heap.size w w' := by
  refine (treeAt_any R k h hQ hk).mono ?_
  rintro e w' ⟨x, j, rfl, j1, j2, hb⟩
  refine ⟨_, j, rfl, xc_size _ x.ok.1, row_one _, fun w => ?_, hb⟩
  have := at_in x.l x.ok j j1 w
  rw [j2] at this
  exact this
set_option maxHeartbeats 1000000 in
theorem rope_at (h : Rp S rb l w) (hQ : l.length ≤ 400000) (i : Nat) (hi : i < l.length) : Calls Try.prog 10 #[.pointer (some ⟨rb, 0, none⟩), .int .i64 (i : Nat)] w fun e w' => e = .returned (.tuple #[.int .i32 (l.getD i 0), .int .i64 0]) ∧ Below w.heap.size w w' := by
  have H0 := Lib.hid h
  have HQ := Lib.hid (And.intro hQ hi)
  have HRD := Lib.hid (rope_read2 h hQ)
  clear h hQ hi
  go_enter Try.func10, Try.ntmps10
  go_wp2_with (first
    | (go_at_call 25; refine HRD.out.mono ?_; rintro e w2 ⟨tb, S', R, rfl, rfl, ss, bb⟩; have SS := Lib.hid ss; have B2 := Lib.hid bb; clear ss bb)
    | (go_at_call 26; refine (treeAt2 R i SS.out HQ.out.1 HQ.out.2).mono ?_; rintro e w3 ⟨cx, j, rfl, sx, ox, hc, bb⟩; have SX := Lib.hid sx; have OX := Lib.hid ox; have HC := Lib.hid hc; have B3 := Lib.hid ((below_add B2.out bb B2.out.size).alloc (by have := B2.out.size; have := bb.size; omega) (.cells (row zero32) 58)); have Z3 := Lib.hid (show w.heap.size ≤ w3.heap.size by have := B2.out.size; have := bb.size; omega); have V3 := Lib.hid (cb_new w3 58 (row zero32)); clear bb sx ox hc)
    | (refine wpList_store_row rfl 58 (.tmp 6) (.tmp 15) rfl w3.heap.size cx rfl rfl _ _ V3.out (xinfo SX.out) (by rw [SX.out]; exact xz_size) OX.out ?_)
    | (refine wpList_load_roww 58 (.tmp 6) rfl w3.heap.size rfl (by rfl) _ _ _ _ (V3.out.set cx) Try.underlying58 rfl (xinfo SX.out) ?_)
    | (go_at_call 27; refine (HC.out _).mono ?_; rintro e w4 ⟨rfl, bb⟩; have B4 := Lib.hid (below_add (below_row (cs := cx) B3.out Z3.out) bb (below_row (cs := cx) B3.out Z3.out).size); clear bb))
  go_ret2
  exact ⟨rfl, B4.out⟩
theorem Rp.remade {S' : Nat → Prop} {Q : Nat} (hC : Cb rb 29 #[.pointer (some ⟨tb, 0, none⟩)] w) (hs : ∀ k, S' k → S k ∧ k ≠ rb) (hrb : S rb) (hup : Up S w) (R' : TC) (h : Sq Q (UpS S' w) tb R'.id [R'] w') (ho : Off (UpS S' w) w w') : Rp S rb (R'.el Wc) w' ∧ Off S w w' := by
  have ho' : Off S' w w' := ho.unup
  have hc := h.cut
  refine ⟨.inr ⟨tb, _, (ho'.block rb hC.lt (fun e => (hs rb e).2 rfl)).trans hC, ⟨R', ⟨hc.1, by rw [tot_cons, tot_nil]; simp⟩, rfl, fun k hk => hk.2⟩, fun k hk => ?_, hrb⟩, ho'.mono fun k hk => (hs k hk).1⟩
  rcases hk.1 with hk | hk
  · exact hs k hk
  · have := hC.lt
    exact ⟨hup k hk, by omega⟩
theorem rowk_nil : RowK S w (.slice none 0 0) [] := by
  intro W hW
  exact Row.nil W
theorem rope_delete (h : Rp S rb l w) (hup : Up S w) (hQ : l.length + 32 ≤ 400000) (i j : Nat) (hij : i ≤ j) (hj : j ≤ l.length) : Calls Try.prog 17 #[.pointer (some ⟨rb, 0, none⟩), .int .i64 (i : Nat), .int .i64 (j : Nat)] w fun e w' => e = .returned (.int .i64 0) ∧ Rp S rb (l.take i ++ l.drop j) w' ∧ Off S w w' := by
  have hr := rope_reach h (i : Nat) (j : Nat)
  rw [reach_yes hij hj] at hr
  have HRE := Lib.hid hr
  have H0 := Lib.hid h
  have HQ := Lib.hid hQ
  have HIJ := Lib.hid (And.intro hij hj)
  have P0 := Lib.hid hup
  clear h hQ hij hj hr hup
  go_enter Try.func17, Try.ntmps17
  go_wp2_with (first
    | (go_at_call 28; refine HRE.out.mono ?_; clear HRE; rintro e w1 ⟨rfl, bb⟩; have O1 := Lib.hid (Off.below_r (Off.refl S w) bb); have P1 := Lib.hid (P0.out.below bb); have H1 := Lib.hid (H0.out.below bb); clear bb)
    | (go_at_call 35; refine (rope_write H1.out).mono ?_; rintro e w2 ⟨tb, S', rfl, cc, ⟨R, q1, q2, q3⟩, hs, oo⟩; have C2 := Lib.hid cc; have T2 := Lib.hid q1; have E2 := Lib.hid q2; have HS2 := Lib.hid (show ∀ k, S' k → S k ∧ k ≠ rb from fun k hk => ⟨(hs k hk).1.elim id (P1.out k), (hs k hk).2⟩); have HW2 := Lib.hid q3; have O2 := Lib.hid (O1.out.seq oo); have P2 := Lib.hid (P1.out.off oo); clear cc q1 q2 q3 hs oo)
    | (go_at_call 39; refine (splice_any (S := UpS S' _) R i j HIJ.out.1 (by rw [E2.out]; exact HIJ.out.2) (.slice none 0 0) [] (T2.out.mono (fun k hk => .inl hk)) (ups_up _ _) rowk_nil (by have := HQ.out; show l.length + 0 + 32 ≤ 400000; omega)).mono ?_; rintro e w3 ⟨rfl, R', q1, q2, oo⟩; have E3 := Lib.hid q1; have T3 := Lib.hid (Rp.remade C2.out HS2.out H1.out.mem.1 P2.out R' q2 oo); clear q1 q2 oo))
  go_ret
  refine ⟨rfl, ?_, O2.out.seq T3.out.2⟩
  have h := T3.out.1
  rw [E3.out, E2.out] at h
  simpa [flat] using h
end
end Go.Proofs.Ytjgfgpkaeddjhaa
