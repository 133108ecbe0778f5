
import Derived.Test.YtjgfgpkaeddjhaaTZ
import Derived.LaidEqlPtr
/- UA -/
/- UA: the calls of a rope that is not there -/
namespace Go.Proofs.Ytjgfgpkaeddjhaa
open Go.RowKit
set_option linter.unusedVariables false
set_option maxRecDepth 100000
section
variable {w w' W : World}
theorem none_reach (i j : Int) (w : World) : Calls Try.prog 28 #[.pointer none, .int .i64 i, .int .i64 j] w fun e w' => e = .returned (.int .i64 1) ∧ Below w.heap.size w w' := by
  have HB := Lib.hid (Below.refl w.heap.size w)
  go_enter Try.func28, Try.ntmps28
  go_wp2
  go_ret
  exact ⟨rfl, HB.out⟩
theorem none_at (i : Int) (w : World) : Calls Try.prog 10 #[.pointer none, .int .i64 i] w fun e w' => e = .returned (.tuple #[.int .i32 0, .int .i64 1]) ∧ Below w.heap.size w w' := by
  have HB := Lib.hid (Below.refl w.heap.size w)
  go_enter Try.func10, Try.ntmps10
  go_wp2
  go_ret2
  exact ⟨rfl, HB.out⟩
theorem none_slice (i j : Int) (w : World) : Calls Try.prog 11 #[.pointer none, .int .i64 i, .int .i64 j] w fun e w' => e = .returned (.tuple #[.slice none 0 0, .int .i64 1]) ∧ Below w.heap.size w w' := by
  go_enter Try.func11, Try.ntmps11
  go_wp2_with (go_at_call 28; refine (none_reach _ _ _).mono ?_; rintro e w1 ⟨rfl, bb⟩; have BB := Lib.hid bb; clear bb)
  go_ret2
  exact ⟨rfl, BB.out⟩
theorem none_lineof (i j : Int) (w : World) : Calls Try.prog 12 #[.pointer none, .int .i64 i] w fun e w' => e = .returned (.tuple #[.int .i64 0, .int .i64 1]) ∧ Below w.heap.size w w' := by
  go_enter Try.func12, Try.ntmps12
  go_wp2_with (go_at_call 28; refine (none_reach _ _ _).mono ?_; rintro e w1 ⟨rfl, bb⟩; have BB := Lib.hid bb; clear bb)
  go_ret2
  exact ⟨rfl, BB.out⟩
theorem none_split (i j : Int) (w : World) : Calls Try.prog 14 #[.pointer none, .int .i64 i] w fun e w' => e = .returned (.tuple #[.pointer none, .int .i64 1]) ∧ Below w.heap.size w w' := by
  go_enter Try.func14, Try.ntmps14
  go_wp2_with (go_at_call 28; refine (none_reach _ _ _).mono ?_; rintro e w1 ⟨rfl, bb⟩; have BB := Lib.hid bb; clear bb)
  go_ret2
  exact ⟨rfl, BB.out⟩
theorem none_delete (i j : Int) (w : World) : Calls Try.prog 17 #[.pointer none, .int .i64 i, .int .i64 j] w fun e w' => e = .returned (.int .i64 1) ∧ Below w.heap.size w w' := by
  go_enter Try.func17, Try.ntmps17
  go_wp2_with (go_at_call 28; refine (none_reach _ _ _).mono ?_; rintro e w1 ⟨rfl, bb⟩; have BB := Lib.hid bb; clear bb)
  go_ret
  exact ⟨rfl, BB.out⟩
theorem none_offsetof (i : Int) (w : World) : Calls Try.prog 13 #[.pointer none, .int .i64 i] w fun e w' => e = .returned (.tuple #[.int .i64 0, .int .i64 1]) ∧ Below w.heap.size w w' := by
  have HB := Lib.hid (Below.refl w.heap.size w)
  go_enter Try.func13, Try.ntmps13
  go_wp2
  go_ret2
  exact ⟨rfl, HB.out⟩
theorem none_insert (i : Int) (v : Value) (w : World) : Calls Try.prog 16 #[.pointer none, .int .i64 i, v] w fun e w' => e = .returned (.int .i64 1) ∧ Below w.heap.size w w' := by
  have HB := Lib.hid (Below.refl w.heap.size w)
  go_enter Try.func16, Try.ntmps16
  go_wp2
  go_ret
  exact ⟨rfl, HB.out⟩
theorem none_concat (o : Option Addr) (w : World) : Calls Try.prog 18 #[.pointer none, .pointer o] w fun e w' => e = .returned (.int .i64 1) ∧ Below w.heap.size w w' := by
  have HB := Lib.hid (Below.refl w.heap.size w)
  go_enter Try.func18, Try.ntmps18
  go_wp2
  go_ret
  exact ⟨rfl, HB.out⟩
theorem none_copy (w : World) : Calls Try.prog 22 #[.pointer none] w fun e w' => e = .returned (.pointer none) ∧ Below w.heap.size w w' := by
  have HB := Lib.hid (Below.refl w.heap.size w)
  go_enter Try.func22, Try.ntmps22
  go_wp2
  go_ret
  exact ⟨rfl, HB.out⟩
theorem none_read (w : World) : Calls Try.prog 25 #[.pointer none] w fun e w' => ∃ (tb : Nat) (S' : Nat → Prop), e = .returned (.pointer (some ⟨tb, 0, none⟩)) ∧ Sq 0 S' tb (Tr.nil : TC).id [.nil] w' ∧ Below w.heap.size w w' := by
  have HB := Lib.hid (blank_any w)
  go_enter Try.func25, Try.ntmps25
  go_wp2_with (go_at_call 44; refine HB.out.mono ?_; rintro e w1 ⟨tb, rfl, ss, bb⟩; have SS := Lib.hid ss; have BB := Lib.hid bb; clear ss bb)
  go_ret
  exact ⟨tb, _, rfl, SS.out, BB.out⟩
theorem nil_size {tb : Nat} {S : Nat → Prop} (h : Sq 0 S tb (Tr.nil : TC).id [.nil] w) : Calls Try.prog 41 #[.pointer (some ⟨tb, 0, none⟩)] w fun e w' => e = .returned (.agg #[.int .i64 0, .int .i64 0]) ∧ Below w.heap.size w w' := size_any .nil h
theorem nil_height {tb : Nat} {S : Nat → Prop} (h : Sq 0 S tb (Tr.nil : TC).id [.nil] w) : Calls Try.prog 42 #[.pointer (some ⟨tb, 0, none⟩)] w fun e w' => e = .returned (.int .i64 0) ∧ Below w.heap.size w w' := by
  obtain ⟨c5, -⟩ := h.root5
  have HAT := Lib.hid (at_st .nil List.mem_cons_self h)
  have hfh := field_ht
  clear h
  go_enter Try.func42, Try.ntmps42
  go_wp2_with (go_at_call 62; refine HAT.out.mono ?_; rintro e w1 ⟨rfl, bb⟩; have BB := Lib.hid bb; clear bb)
  go_ret
  exact ⟨rfl, BB.out⟩
theorem none_len (w : World) : Calls Try.prog 19 #[.pointer none] w fun e w' => e = .returned (.int .i64 0) ∧ Below w.heap.size w w' := by
  have HR := Lib.hid (none_read w)
  have hfl := field_len
  have hfm := field_mks
  go_enter Try.func19, Try.ntmps19
  go_wp2_with (first
    | (go_at_call 25; refine HR.out.mono ?_; rintro e w1 ⟨tb, S', rfl, ss, bb⟩; have SS := Lib.hid ss; have B1 := Lib.hid bb; clear ss bb)
    | (go_at_call 41; refine (nil_size SS.out).mono ?_; rintro e w2 ⟨rfl, bb⟩; have B2 := Lib.hid (below_add B1.out bb B1.out.size); clear bb))
  go_ret
  exact ⟨rfl, B2.out⟩
theorem none_newlines (w : World) : Calls Try.prog 20 #[.pointer none] w fun e w' => e = .returned (.int .i64 0) ∧ Below w.heap.size w w' := by
  have HR := Lib.hid (none_read w)
  have hfl := field_len
  have hfm := field_mks
  go_enter Try.func20, Try.ntmps20
  go_wp2_with (first
    | (go_at_call 25; refine HR.out.mono ?_; rintro e w1 ⟨tb, S', rfl, ss, bb⟩; have SS := Lib.hid ss; have B1 := Lib.hid bb; clear ss bb)
    | (go_at_call 41; refine (nil_size SS.out).mono ?_; rintro e w2 ⟨rfl, bb⟩; have B2 := Lib.hid (below_add B1.out bb B1.out.size); clear bb))
  go_ret
  exact ⟨rfl, B2.out⟩
theorem none_height (w : World) : Calls Try.prog 21 #[.pointer none] w fun e w' => e = .returned (.int .i64 0) ∧ Below w.heap.size w w' := by
  have HR := Lib.hid (none_read w)
  have hfl := field_len
  have hfm := field_mks
  go_enter Try.func21, Try.ntmps21
  go_wp2_with (first
    | (go_at_call 25; refine HR.out.mono ?_; rintro e w1 ⟨tb, S', rfl, ss, bb⟩; have SS := Lib.hid ss; have B1 := Lib.hid bb; clear ss bb)
    | (go_at_call 42; refine (nil_height SS.out).mono ?_; rintro e w2 ⟨rfl, bb⟩; have B2 := Lib.hid (below_add B1.out bb B1.out.size); clear bb))
  go_ret
  exact ⟨rfl, B2.out⟩
end
end Go.Proofs.Ytjgfgpkaeddjhaa

/- UB -/
/- UB: a rope split -/
namespace Go.Proofs.Ytjgfgpkaeddjhaa
open Go.RowKit
set_option linter.unusedVariables false
set_option maxRecDepth 100000
section
variable {S : Nat → Prop} {tb rb : Nat} {l : List Int} {w w' W : World}
theorem Sq.tight {Q : Nat} {root : Int} {R : TC} (h : Sq Q S tb root [R] w) : Sq (R.el Wc).length S tb root [R] w := ⟨h.1, by rw [tot_cons, tot_nil]; simp⟩
set_option maxHeartbeats 1000000 in
theorem rope_split (h : Rp S rb l w) (hlt : ∀ k, S k → k < w.heap.size) (hQ : l.length + 32 ≤ 200000) (i : Nat) (hi : i ≤ l.length) : Calls Try.prog 14 #[.pointer (some ⟨rb, 0, none⟩), .int .i64 (i : Nat)] w fun e w' => ∃ (nb : Nat) (S1 S2 : Nat → Prop), e = .returned (.tuple #[.pointer (some ⟨nb, 0, none⟩), .int .i64 0]) ∧ Rp S1 rb (l.take i) w' ∧ Rp S2 nb (l.drop i) w' ∧
      (∀ k, S1 k → UpS S w k ∧ k < w'.heap.size) ∧ (∀ k, S2 k → w.heap.size ≤ k ∧ k < w'.heap.size) ∧ (∀ k, S1 k → ¬ S2 k) ∧ Off S w w' := by
  have hr := rope_reach h (i : Nat) (i : Nat)
  rw [reach_yes (Nat.le_refl i) hi] at hr
  have HRE := Lib.hid hr
  have H0 := Lib.hid h
  have HQ := Lib.hid (And.intro hQ hi)
  have HRB := Lib.hid h.mem
  clear h hQ hi hr hlt
  go_enter Try.func14, Try.ntmps14
  go_wp2_with (first
    | (go_at_call 28; refine HRE.out.mono ?_; clear HRE; rintro e w1 ⟨rfl, bb⟩; have O1 := Lib.hid (Off.below_r (Off.refl (UpS S w) w) bb); have Z1 := Lib.hid bb.size; have H1 := Lib.hid (H0.out.below bb); clear bb)
    | (go_at_call 35; refine (rope_write H1.out).mono ?_; rintro e w2 ⟨tb, S', rfl, cc, ⟨R, q1, q2, q3⟩, hs, oo⟩; have C2 := Lib.hid cc; have T2 := Lib.hid q1; have E2 := Lib.hid q2; have HS2 := Lib.hid (show ∀ k, S' k → UpS S w k ∧ k ≠ rb from fun k hk => ⟨(hs k hk).1.elim .inl (fun h => .inr (Nat.le_trans Z1.out h)), (hs k hk).2⟩); have HW2 := Lib.hid q3; have Z2 := Lib.hid oo.size; have O2 := Lib.hid (O1.out.seq (oo.mono (fun k hk => .inl hk))); clear cc q1 q2 q3 hs oo)
    | (go_at_call 36; refine (tsplit_any R i (by rw [E2.out]; exact HQ.out.2) T2.out HW2.out HQ.out.1).mono ?_; rintro e w3 ⟨ob, a, b, S1, S2, rfl, ea, eb, sa, sb, h1, h2, h3, oo⟩; have EA := Lib.hid (And.intro ea eb); have SA := Lib.hid (And.intro sa sb); have HH := Lib.hid (And.intro h1 (And.intro h2 h3)); have C3 := Lib.hid ((oo.block rb C2.out.lt (fun e => (HS2.out rb e).2 rfl)).trans C2.out); have Z3 := Lib.hid oo.size; have O3 := Lib.hid (O2.out.seq (oo.mono (fun k hk => (HS2.out k hk).1))); clear ea eb sa sb h1 h2 h3 oo))
  go_ret2
  have hz1 := Z1.out
  have hz2 := Z2.out
  have hz3 := Z3.out
  have hrb := HRB.out
  obtain ⟨h1, h2, h3⟩ := HH.out
  have bl := below_alloc1 w3 (.cells #[.pointer (some ⟨ob, 0, none⟩)] 29)
  have sa := SA.out.1.tight.below bl
  have sb := SA.out.2.tight.below bl
  rw [EA.out.1, E2.out] at sa
  rw [EA.out.2, E2.out] at sb
  have c3 : Cb rb 29 #[.pointer (some ⟨tb, 0, none⟩)] w3 := C3.out
  refine ⟨w3.heap.size, fun k => S1 k ∨ k = rb, fun k => S2 k ∨ k = w3.heap.size, rfl, .inr ⟨tb, S1, c3.below bl, ⟨a, sa, by rw [EA.out.1, E2.out], fun k hk => ?_⟩, fun k hk => ⟨.inl hk, ?_⟩, .inr rfl⟩, .inr ⟨ob, S2, cb_new w3 _ _, ⟨b, sb, by rw [EA.out.2, E2.out], fun k hk => ?_⟩, fun k hk => ⟨.inl hk, ?_⟩, .inr rfl⟩, fun k hk => ?_, fun k hk => ?_, fun k hk hl => ?_, ?_⟩
  · have := (h1 k hk).2; rw [World.size_alloc]; omega
  · rintro rfl
    rcases (h1 k hk).1 with h | h
    · exact (HS2.out k h).2 rfl
    · omega
  · have := (h2 k hk).2; rw [World.size_alloc]; omega
  · have := (h2 k hk).2; omega
  · rw [World.size_alloc]
    rcases hk with hk | rfl
    · have := (h1 k hk).2
      refine ⟨?_, by omega⟩
      rcases (h1 k hk).1 with h | h
      · exact (HS2.out k h).1
      · exact .inr (by omega)
    · exact ⟨.inl hrb.1, by omega⟩
  · rw [World.size_alloc]
    rcases hk with hk | rfl
    · have := h2 k hk; omega
    · omega
  · rcases hk with hk | rfl
    · have := (h1 k hk).2
      rcases hl with hl | rfl
      · exact h3 k hk hl
      · omega
    · rcases hl with hl | hl
      · have := h2 k hl; omega
      · omega
  · exact (O3.out.below_r bl).unup
end
end Go.Proofs.Ytjgfgpkaeddjhaa

/- UC -/
/- UC: one tree's things put behind another's -/
namespace Go.Proofs.Ytjgfgpkaeddjhaa
open Go.RowKit
set_option linter.unusedVariables false
set_option maxRecDepth 100000
section
theorem wp_val {P : Program} {op : Oper} {a : Act} {w : World} {K : Act → World → Prop} {Q : Exit → Act → World → Prop} (v : Value) (hv : (execOp a.eval op).run P w = .ok (.value v) w) (h : K (a.put op.dst v) w) : op.wp P a w K Q := by
  unfold Oper.wp
  rw [hv]
  exact h
theorem wp_skip {P : Program} {op : Oper} {a : Act} {w w' : World} {K : Act → World → Prop} {Q : Exit → Act → World → Prop} (hv : (execOp a.eval op).run P w = .ok .skip w') (h : K (a.put op.dst undef) w') : op.wp P a w K Q := by
  unfold Oper.wp
  rw [hv]
  exact h
theorem wp_map {P : Program} {op : Oper} {a : Act} {w : World} {K : Act → World → Prop} {Q : Exit → Act → World → Prop} (ty : TypeId) (ho : op.op = .makeMap ty none) (h : K (a.put op.dst (.map (some w.heap.size))) (w.alloc (.map #[] 0))) : op.wp P a w K Q := by
  have hrun : (execOp a.eval op).run P w = .ok (.value (.map (some w.heap.size))) (w.alloc (.map #[] 0)) := by
    simp [execOp, ho, run_makeMap]
  unfold Oper.wp
  rw [hrun]
  exact h
theorem ptr_ne {ob tb : Nat} {ca cb : Array Value} {w : World} (ha : Cb ob 95 ca w) (hb : Cb tb 95 cb w) (hne : ¬ ob = tb) :
    (binOp .eql 27 (.pointer (some ⟨ob, 0, none⟩)) (.pointer (some ⟨tb, 0, none⟩))).run Try.prog w = .ok (.bool false) w := by
  have hs : (Try.prog.info? 95).map (·.size) = some 6 := by kernel_rfl
  cases hi : Try.prog.info? 95 with
  | none => rw [hi] at hs; cases hs
  | some j =>
    rw [hi] at hs
    have hj : j.size = 6 := by simpa using hs
    exact run_eql_ptr_other w (te := 95) (by kernel_rfl) hi (by omega) (fun e => hne (by cases e; rfl)) ha hb
variable {S So : Nat → Prop} {tb ob : Nat} {w w' W : World} {Q Qo : Nat}
set_option maxHeartbeats 1000000 in
theorem treeConcat_any (R O : TC) (h : Sq Q S tb R.id [R] w) (ho : Sq Qo So ob O.id [O] w) (hd : ∀ k, So k → ¬ S k) (hlt : ∀ k, S k → k < w.heap.size) (hlo : ∀ k, So k → k < w.heap.size) (hQ : Q + (O.el Wc).length + 32 ≤ 400000) :
    Calls Try.prog 40 #[.pointer (some ⟨tb, 0, none⟩), .pointer (some ⟨ob, 0, none⟩)] w fun e w' => e = .returned (.tuple #[]) ∧ ∃ R' : TC, R'.el Wc = R.el Wc ++ O.el Wc ∧ Sq (Q + (O.el Wc).length) (UpS S w) tb R'.id [R'] w' ∧ Off S w w' := by
  have hne : ¬ ob = tb := fun e => hd ob ho.tS.1 (e ▸ h.tS.1)
  have hz : w.drew.heap.size = w.heap.size := rfl
  have T_a := Lib.hid ((h.below (below_drew w)).mono (S' := fun k => S k ∨ w.heap.size + 1 ≤ k) (fun k hk => .inl hk))
  have O_a := Lib.hid (ho.below (below_drew w))
  obtain ⟨⟨an, cn, U, VV, A, C, ht, hh⟩, -⟩ := ho
  have HO := Lib.hid (ht.below ((below_drew w).alloc (Nat.le_refl _) (.map #[] 0)))
  have HI := Lib.hid (hh.inn O List.mem_cons_self)
  have HD := Lib.hid (show ∀ k, So k → ¬ (S k ∨ w.heap.size + 1 ≤ k) from fun k hk hl => hl.elim (hd k hk) (fun h => by have := hlo k hk; omega))
  have HLO := Lib.hid hlo
  have HLT := Lib.hid hlt
  have HQ := Lib.hid hQ
  have KT := Lib.hid True.intro
  have BM := Lib.hid (show Below w.heap.size w (w.drew.alloc (.map #[] 0)) from (below_drew w).alloc (Nat.le_refl _) (.map #[] 0))
  have hpe : (binOp .eql 27 (.pointer (some ⟨ob, 0, none⟩)) (.pointer (some ⟨tb, 0, none⟩))).run Try.prog w = .ok (.bool false) w := by
    obtain ⟨⟨an2, cn2, U2, V2, A2, C2, ht2, hh2⟩, -⟩ := h
    exact ptr_ne ht.cb ht2.cb hne
  clear h ht hh hd hlo hlt hQ
  go_enter Try.func40, Try.ntmps40
  go_upto_region 2 with fail
  refine h_start (S := fun _ => True) (by kernel_rfl) ?_
  refine h_val (i := 0) (v := .pointer (some ⟨tb, 0, none⟩)) rfl (by kernel_rfl) (by kernel_rfl) (by kernel_rfl) (fun _ _ _ h => h) (by rfl) (fun wz hS => ?_) KT.out ?_
  · skip
    go_simp
  go_frame
  refine h_val (i := 1) (v := .pointer (some ⟨tb, 0, none⟩)) rfl (by kernel_rfl) (by kernel_rfl) (by kernel_rfl) (fun _ _ _ h => h) (by rfl) (fun wz hS => ?_) KT.out ?_
  · skip
    go_simp
  go_frame
  refine h_val (i := 2) (v := .pointer (some ⟨tb, 0, none⟩)) rfl (by kernel_rfl) (by kernel_rfl) (by kernel_rfl) (fun _ _ _ h => h) (by rfl) (fun wz hS => ?_) KT.out ?_
  · skip
    go_simp
  go_frame
  refine h_val (i := 3) (v := .pointer (some ⟨tb, 0, none⟩)) rfl (by kernel_rfl) (by kernel_rfl) (by kernel_rfl) (fun _ _ _ h => h) (by rfl) (fun wz hS => ?_) KT.out ?_
  · skip
    go_simp
  go_frame
  refine h_val (i := 4) (v := .pointer (some ⟨tb, 5, none⟩)) rfl (by kernel_rfl) (by kernel_rfl) (by kernel_rfl) (fun _ _ _ h => h) (by rfl) (fun wz hS => ?_) KT.out ?_
  · skip
    go_simp
  go_frame
  refine h_val (i := 6) (v := .pointer (some ⟨tb, 0, none⟩)) rfl (by kernel_rfl) (by kernel_rfl) (by kernel_rfl) (fun _ _ _ h => h) (by rfl) (fun wz hS => ?_) KT.out ?_
  · skip
    go_simp
  go_frame
  refine h_val (i := 7) (v := .pointer (some ⟨ob, 0, none⟩)) rfl (by kernel_rfl) (by kernel_rfl) (by kernel_rfl) (fun _ _ _ h => h) (by rfl) (fun wz hS => ?_) KT.out ?_
  · skip
    go_simp
  go_frame
  refine h_val (i := 8) (v := .pointer (some ⟨ob, 0, none⟩)) rfl (by kernel_rfl) (by kernel_rfl) (by kernel_rfl) (fun _ _ _ h => h) (by rfl) (fun wz hS => ?_) KT.out ?_
  · skip
    go_simp
  go_frame
  refine h_val (i := 9) (v := .pointer (some ⟨ob, 0, none⟩)) rfl (by kernel_rfl) (by kernel_rfl) (by kernel_rfl) (fun _ _ _ h => h) (by rfl) (fun wz hS => ?_) KT.out ?_
  · skip
    go_simp
  go_frame
  refine h_val (i := 10) (v := .pointer (some ⟨ob, 5, none⟩)) rfl (by kernel_rfl) (by kernel_rfl) (by kernel_rfl) (fun _ _ _ h => h) (by rfl) (fun wz hS => ?_) KT.out ?_
  · skip
    go_simp
  go_frame
  refine h_all3 (i := 5) (j := 11) (k := 12) (by kernel_rfl) ?_ ?_ ?_
  · skip
    refine o_step rfl (by rfl) ?_
    refine wp_val (.int .i64 R.id) (by have q := T_a.out.root5.1; go_simp) ?_
    refine ⟨trivial, ?_⟩
    go_frame
    refine h_all2 (i := 11) (j := 12) (by kernel_rfl) ?_ ?_
    · skip
      refine o_step rfl (by rfl) ?_
      refine wp_val (.int .i64 O.id) (by have q := O_a.out.root5.1; go_simp) ?_
      refine ⟨trivial, ?_⟩
      go_frame
      refine h_all1 (i := 12) (by kernel_rfl) ?_
      refine o_step rfl (by rfl) ?_
      refine wp_map _ rfl ?_
      have T_m := Lib.hid (T_a.out.below (below_alloc1 w.drew (.map #[] 0)))
      have O_m := Lib.hid (O_a.out.below (below_alloc1 w.drew (.map #[] 0)))
      refine ⟨trivial, ?_⟩
      go_frame
      refine h_all1 (i := 13) (by kernel_rfl) ?_
      refine o_call (f := 55) (args := #[.pointer (some ⟨tb, 0, none⟩), .pointer (some ⟨ob, 0, none⟩), .int .i64 O.id, .map (some w.heap.size)]) rfl (by rfl) (by go_simp) ?_
      refine (adopt_any O Q (fun k => S k ∨ w.heap.size + 1 ≤ k) [R] _ So an cn U VV O.id A C T_m.out (fun k hk => .inr (by rw [World.size_alloc] at hk; exact hk)) HO.out HI.out HD.out (fun k hk => by have := HLO.out k hk; rw [World.size_alloc]; show k < w.heap.size + 1; omega) (heap_alloc_map w.drew) (fun hl => by rcases hl with hl | hl; (have := HLT.out _ hl; omega); omega) (by have := HQ.out; omega)).mono ?_
      rintro e w5 ⟨T', rfl, -, eT, ss, oo⟩
      have T_d := Lib.hid ss
      have E5 := Lib.hid eT
      have O5 := Lib.hid oo
      clear ss oo eT
      refine ⟨_, rfl, trivial, ?_⟩
      go_frame
      refine h_all1 (i := 14) (by kernel_rfl) ?_
      refine o_call (f := 59) (args := #[.pointer (some ⟨tb, 0, none⟩), .int .i64 R.id, .int .i64 T'.id]) rfl (by rfl) (by go_simp) ?_
      refine (join_any R T' T_d.out.swap (fun k hk => .inr (by have := O5.out.size; rw [World.size_alloc] at this; exact Nat.le_trans this hk)) HQ.out).mono ?_
      rintro e w7 ⟨J, rfl, eJ, ss, oo⟩
      have T_j := Lib.hid ss
      have E7 := Lib.hid eJ
      have O7 := Lib.hid oo
      clear ss oo eJ
      refine ⟨_, rfl, trivial, ?_⟩
      go_frame
      refine h_val (i := 15) (v := .pointer (some ⟨tb, 0, none⟩)) rfl (by kernel_rfl) (by kernel_rfl) (by kernel_rfl) (fun _ _ _ h => h) (by rfl) (fun wz hS => ?_) KT.out ?_
      · skip
        go_simp
      go_frame
      refine h_val (i := 16) (v := .pointer (some ⟨tb, 5, none⟩)) rfl (by kernel_rfl) (by kernel_rfl) (by kernel_rfl) (fun _ _ _ h => h) (by rfl) (fun wz hS => ?_) KT.out ?_
      · skip
        go_simp
      go_frame
      refine h_all1 (i := 17) (by kernel_rfl) ?_
      refine o_step rfl (by rfl) ?_
      refine wp_skip (w' := w7.setCell ⟨tb, 5, none⟩ (.int .i64 J.id)) (by obtain ⟨q, q2⟩ := T_j.out.root5; go_simp) ?_
      refine ⟨trivial, ?_⟩
      go_frame
      refine h_done (by kernel_rfl) ?_
      go_wp2
      go_end0
      refine ⟨rfl, J, by rw [E7.out, E5.out], ((T_j.out.setRoot J.id).1).mono (fun k hk => hk.elim .inl (fun h => .inr (by omega))), ?_⟩
      have a1 : Off (UpS S w) w (w.drew.alloc (.map #[] 0)) := Off.below_r (Off.refl _ _) BM.out
      have a2 := a1.seq (O5.out.mono (S' := UpS S w) (fun k hk => hk.elim .inl (fun h => .inr (by omega))))
      have a3 := a2.seq (O7.out.mono (S' := UpS S w) (fun k hk => hk.elim .inl (fun h => .inr (by omega))))
      exact (a3.seq ((T_j.out.setRoot J.id).2.mono (S' := UpS S w) (fun k hk => hk.elim .inl (fun h => .inr (by omega))))).unup
    · skip
      refine o_step rfl (by rfl) ?_
      refine wp_map _ rfl ?_
      have T_m := Lib.hid (T_a.out.below (below_alloc1 w.drew (.map #[] 0)))
      have O_m := Lib.hid (O_a.out.below (below_alloc1 w.drew (.map #[] 0)))
      refine ⟨trivial, ?_⟩
      go_frame
      refine h_all1 (i := 11) (by kernel_rfl) ?_
      refine o_step rfl (by rfl) ?_
      refine wp_val (.int .i64 O.id) (by have q := O_m.out.root5.1; generalize w.drew.alloc (Obj.map #[] 0) = W9 at q ⊢; go_simp) ?_
      refine ⟨trivial, ?_⟩
      go_frame
      refine h_all1 (i := 13) (by kernel_rfl) ?_
      refine o_call (f := 55) (args := #[.pointer (some ⟨tb, 0, none⟩), .pointer (some ⟨ob, 0, none⟩), .int .i64 O.id, .map (some w.heap.size)]) rfl (by rfl) (by go_simp) ?_
      refine (adopt_any O Q (fun k => S k ∨ w.heap.size + 1 ≤ k) [R] _ So an cn U VV O.id A C T_m.out (fun k hk => .inr (by rw [World.size_alloc] at hk; exact hk)) HO.out HI.out HD.out (fun k hk => by have := HLO.out k hk; rw [World.size_alloc]; show k < w.heap.size + 1; omega) (heap_alloc_map w.drew) (fun hl => by rcases hl with hl | hl; (have := HLT.out _ hl; omega); omega) (by have := HQ.out; omega)).mono ?_
      rintro e w5 ⟨T', rfl, -, eT, ss, oo⟩
      have T_d := Lib.hid ss
      have E5 := Lib.hid eT
      have O5 := Lib.hid oo
      clear ss oo eT
      refine ⟨_, rfl, trivial, ?_⟩
      go_frame
      refine h_all1 (i := 14) (by kernel_rfl) ?_
      refine o_call (f := 59) (args := #[.pointer (some ⟨tb, 0, none⟩), .int .i64 R.id, .int .i64 T'.id]) rfl (by rfl) (by go_simp) ?_
      refine (join_any R T' T_d.out.swap (fun k hk => .inr (by have := O5.out.size; rw [World.size_alloc] at this; exact Nat.le_trans this hk)) HQ.out).mono ?_
      rintro e w7 ⟨J, rfl, eJ, ss, oo⟩
      have T_j := Lib.hid ss
      have E7 := Lib.hid eJ
      have O7 := Lib.hid oo
      clear ss oo eJ
      refine ⟨_, rfl, trivial, ?_⟩
      go_frame
      refine h_val (i := 15) (v := .pointer (some ⟨tb, 0, none⟩)) rfl (by kernel_rfl) (by kernel_rfl) (by kernel_rfl) (fun _ _ _ h => h) (by rfl) (fun wz hS => ?_) KT.out ?_
      · skip
        go_simp
      go_frame
      refine h_val (i := 16) (v := .pointer (some ⟨tb, 5, none⟩)) rfl (by kernel_rfl) (by kernel_rfl) (by kernel_rfl) (fun _ _ _ h => h) (by rfl) (fun wz hS => ?_) KT.out ?_
      · skip
        go_simp
      go_frame
      refine h_all1 (i := 17) (by kernel_rfl) ?_
      refine o_step rfl (by rfl) ?_
      refine wp_skip (w' := w7.setCell ⟨tb, 5, none⟩ (.int .i64 J.id)) (by obtain ⟨q, q2⟩ := T_j.out.root5; go_simp) ?_
      refine ⟨trivial, ?_⟩
      go_frame
      refine h_done (by kernel_rfl) ?_
      go_wp2
      go_end0
      refine ⟨rfl, J, by rw [E7.out, E5.out], ((T_j.out.setRoot J.id).1).mono (fun k hk => hk.elim .inl (fun h => .inr (by omega))), ?_⟩
      have a1 : Off (UpS S w) w (w.drew.alloc (.map #[] 0)) := Off.below_r (Off.refl _ _) BM.out
      have a2 := a1.seq (O5.out.mono (S' := UpS S w) (fun k hk => hk.elim .inl (fun h => .inr (by omega))))
      have a3 := a2.seq (O7.out.mono (S' := UpS S w) (fun k hk => hk.elim .inl (fun h => .inr (by omega))))
      exact (a3.seq ((T_j.out.setRoot J.id).2.mono (S' := UpS S w) (fun k hk => hk.elim .inl (fun h => .inr (by omega))))).unup
  · skip
    refine o_step rfl (by rfl) ?_
    refine wp_val (.int .i64 O.id) (by have q := O_a.out.root5.1; go_simp) ?_
    refine ⟨trivial, ?_⟩
    go_frame
    refine h_all2 (i := 5) (j := 12) (by kernel_rfl) ?_ ?_
    · skip
      refine o_step rfl (by rfl) ?_
      refine wp_val (.int .i64 R.id) (by have q := T_a.out.root5.1; go_simp) ?_
      refine ⟨trivial, ?_⟩
      go_frame
      refine h_all1 (i := 12) (by kernel_rfl) ?_
      refine o_step rfl (by rfl) ?_
      refine wp_map _ rfl ?_
      have T_m := Lib.hid (T_a.out.below (below_alloc1 w.drew (.map #[] 0)))
      have O_m := Lib.hid (O_a.out.below (below_alloc1 w.drew (.map #[] 0)))
      refine ⟨trivial, ?_⟩
      go_frame
      refine h_all1 (i := 13) (by kernel_rfl) ?_
      refine o_call (f := 55) (args := #[.pointer (some ⟨tb, 0, none⟩), .pointer (some ⟨ob, 0, none⟩), .int .i64 O.id, .map (some w.heap.size)]) rfl (by rfl) (by go_simp) ?_
      refine (adopt_any O Q (fun k => S k ∨ w.heap.size + 1 ≤ k) [R] _ So an cn U VV O.id A C T_m.out (fun k hk => .inr (by rw [World.size_alloc] at hk; exact hk)) HO.out HI.out HD.out (fun k hk => by have := HLO.out k hk; rw [World.size_alloc]; show k < w.heap.size + 1; omega) (heap_alloc_map w.drew) (fun hl => by rcases hl with hl | hl; (have := HLT.out _ hl; omega); omega) (by have := HQ.out; omega)).mono ?_
      rintro e w5 ⟨T', rfl, -, eT, ss, oo⟩
      have T_d := Lib.hid ss
      have E5 := Lib.hid eT
      have O5 := Lib.hid oo
      clear ss oo eT
      refine ⟨_, rfl, trivial, ?_⟩
      go_frame
      refine h_all1 (i := 14) (by kernel_rfl) ?_
      refine o_call (f := 59) (args := #[.pointer (some ⟨tb, 0, none⟩), .int .i64 R.id, .int .i64 T'.id]) rfl (by rfl) (by go_simp) ?_
      refine (join_any R T' T_d.out.swap (fun k hk => .inr (by have := O5.out.size; rw [World.size_alloc] at this; exact Nat.le_trans this hk)) HQ.out).mono ?_
      rintro e w7 ⟨J, rfl, eJ, ss, oo⟩
      have T_j := Lib.hid ss
      have E7 := Lib.hid eJ
      have O7 := Lib.hid oo
      clear ss oo eJ
      refine ⟨_, rfl, trivial, ?_⟩
      go_frame
      refine h_val (i := 15) (v := .pointer (some ⟨tb, 0, none⟩)) rfl (by kernel_rfl) (by kernel_rfl) (by kernel_rfl) (fun _ _ _ h => h) (by rfl) (fun wz hS => ?_) KT.out ?_
      · skip
        go_simp
      go_frame
      refine h_val (i := 16) (v := .pointer (some ⟨tb, 5, none⟩)) rfl (by kernel_rfl) (by kernel_rfl) (by kernel_rfl) (fun _ _ _ h => h) (by rfl) (fun wz hS => ?_) KT.out ?_
      · skip
        go_simp
      go_frame
      refine h_all1 (i := 17) (by kernel_rfl) ?_
      refine o_step rfl (by rfl) ?_
      refine wp_skip (w' := w7.setCell ⟨tb, 5, none⟩ (.int .i64 J.id)) (by obtain ⟨q, q2⟩ := T_j.out.root5; go_simp) ?_
      refine ⟨trivial, ?_⟩
      go_frame
      refine h_done (by kernel_rfl) ?_
      go_wp2
      go_end0
      refine ⟨rfl, J, by rw [E7.out, E5.out], ((T_j.out.setRoot J.id).1).mono (fun k hk => hk.elim .inl (fun h => .inr (by omega))), ?_⟩
      have a1 : Off (UpS S w) w (w.drew.alloc (.map #[] 0)) := Off.below_r (Off.refl _ _) BM.out
      have a2 := a1.seq (O5.out.mono (S' := UpS S w) (fun k hk => hk.elim .inl (fun h => .inr (by omega))))
      have a3 := a2.seq (O7.out.mono (S' := UpS S w) (fun k hk => hk.elim .inl (fun h => .inr (by omega))))
      exact (a3.seq ((T_j.out.setRoot J.id).2.mono (S' := UpS S w) (fun k hk => hk.elim .inl (fun h => .inr (by omega))))).unup
    · skip
      refine o_step rfl (by rfl) ?_
      refine wp_map _ rfl ?_
      have T_m := Lib.hid (T_a.out.below (below_alloc1 w.drew (.map #[] 0)))
      have O_m := Lib.hid (O_a.out.below (below_alloc1 w.drew (.map #[] 0)))
      refine ⟨trivial, ?_⟩
      go_frame
      refine h_all2 (i := 5) (j := 13) (by kernel_rfl) ?_ ?_
      · skip
        refine o_step rfl (by rfl) ?_
        refine wp_val (.int .i64 R.id) (by have q := T_m.out.root5.1; generalize w.drew.alloc (Obj.map #[] 0) = W9 at q ⊢; go_simp) ?_
        refine ⟨trivial, ?_⟩
        go_frame
        refine h_all1 (i := 13) (by kernel_rfl) ?_
        refine o_call (f := 55) (args := #[.pointer (some ⟨tb, 0, none⟩), .pointer (some ⟨ob, 0, none⟩), .int .i64 O.id, .map (some w.heap.size)]) rfl (by rfl) (by go_simp) ?_
        refine (adopt_any O Q (fun k => S k ∨ w.heap.size + 1 ≤ k) [R] _ So an cn U VV O.id A C T_m.out (fun k hk => .inr (by rw [World.size_alloc] at hk; exact hk)) HO.out HI.out HD.out (fun k hk => by have := HLO.out k hk; rw [World.size_alloc]; show k < w.heap.size + 1; omega) (heap_alloc_map w.drew) (fun hl => by rcases hl with hl | hl; (have := HLT.out _ hl; omega); omega) (by have := HQ.out; omega)).mono ?_
        rintro e w5 ⟨T', rfl, -, eT, ss, oo⟩
        have T_d := Lib.hid ss
        have E5 := Lib.hid eT
        have O5 := Lib.hid oo
        clear ss oo eT
        refine ⟨_, rfl, trivial, ?_⟩
        go_frame
        refine h_all1 (i := 14) (by kernel_rfl) ?_
        refine o_call (f := 59) (args := #[.pointer (some ⟨tb, 0, none⟩), .int .i64 R.id, .int .i64 T'.id]) rfl (by rfl) (by go_simp) ?_
        refine (join_any R T' T_d.out.swap (fun k hk => .inr (by have := O5.out.size; rw [World.size_alloc] at this; exact Nat.le_trans this hk)) HQ.out).mono ?_
        rintro e w7 ⟨J, rfl, eJ, ss, oo⟩
        have T_j := Lib.hid ss
        have E7 := Lib.hid eJ
        have O7 := Lib.hid oo
        clear ss oo eJ
        refine ⟨_, rfl, trivial, ?_⟩
        go_frame
        refine h_val (i := 15) (v := .pointer (some ⟨tb, 0, none⟩)) rfl (by kernel_rfl) (by kernel_rfl) (by kernel_rfl) (fun _ _ _ h => h) (by rfl) (fun wz hS => ?_) KT.out ?_
        · skip
          go_simp
        go_frame
        refine h_val (i := 16) (v := .pointer (some ⟨tb, 5, none⟩)) rfl (by kernel_rfl) (by kernel_rfl) (by kernel_rfl) (fun _ _ _ h => h) (by rfl) (fun wz hS => ?_) KT.out ?_
        · skip
          go_simp
        go_frame
        refine h_all1 (i := 17) (by kernel_rfl) ?_
        refine o_step rfl (by rfl) ?_
        refine wp_skip (w' := w7.setCell ⟨tb, 5, none⟩ (.int .i64 J.id)) (by obtain ⟨q, q2⟩ := T_j.out.root5; go_simp) ?_
        refine ⟨trivial, ?_⟩
        go_frame
        refine h_done (by kernel_rfl) ?_
        go_wp2
        go_end0
        refine ⟨rfl, J, by rw [E7.out, E5.out], ((T_j.out.setRoot J.id).1).mono (fun k hk => hk.elim .inl (fun h => .inr (by omega))), ?_⟩
        have a1 : Off (UpS S w) w (w.drew.alloc (.map #[] 0)) := Off.below_r (Off.refl _ _) BM.out
        have a2 := a1.seq (O5.out.mono (S' := UpS S w) (fun k hk => hk.elim .inl (fun h => .inr (by omega))))
        have a3 := a2.seq (O7.out.mono (S' := UpS S w) (fun k hk => hk.elim .inl (fun h => .inr (by omega))))
        exact (a3.seq ((T_j.out.setRoot J.id).2.mono (S' := UpS S w) (fun k hk => hk.elim .inl (fun h => .inr (by omega))))).unup
      · skip
        refine o_call (f := 55) (args := #[.pointer (some ⟨tb, 0, none⟩), .pointer (some ⟨ob, 0, none⟩), .int .i64 O.id, .map (some w.heap.size)]) rfl (by rfl) (by go_simp) ?_
        refine (adopt_any O Q (fun k => S k ∨ w.heap.size + 1 ≤ k) [R] _ So an cn U VV O.id A C T_m.out (fun k hk => .inr (by rw [World.size_alloc] at hk; exact hk)) HO.out HI.out HD.out (fun k hk => by have := HLO.out k hk; rw [World.size_alloc]; show k < w.heap.size + 1; omega) (heap_alloc_map w.drew) (fun hl => by rcases hl with hl | hl; (have := HLT.out _ hl; omega); omega) (by have := HQ.out; omega)).mono ?_
        rintro e w5 ⟨T', rfl, -, eT, ss, oo⟩
        have T_d := Lib.hid ss
        have E5 := Lib.hid eT
        have O5 := Lib.hid oo
        clear ss oo eT
        refine ⟨_, rfl, trivial, ?_⟩
        go_frame
        refine h_all1 (i := 5) (by kernel_rfl) ?_
        refine o_step rfl (by rfl) ?_
        refine wp_val (.int .i64 R.id) (by have q := T_d.out.root5.1; go_simp) ?_
        refine ⟨trivial, ?_⟩
        go_frame
        refine h_all1 (i := 14) (by kernel_rfl) ?_
        refine o_call (f := 59) (args := #[.pointer (some ⟨tb, 0, none⟩), .int .i64 R.id, .int .i64 T'.id]) rfl (by rfl) (by go_simp) ?_
        refine (join_any R T' T_d.out.swap (fun k hk => .inr (by have := O5.out.size; rw [World.size_alloc] at this; exact Nat.le_trans this hk)) HQ.out).mono ?_
        rintro e w7 ⟨J, rfl, eJ, ss, oo⟩
        have T_j := Lib.hid ss
        have E7 := Lib.hid eJ
        have O7 := Lib.hid oo
        clear ss oo eJ
        refine ⟨_, rfl, trivial, ?_⟩
        go_frame
        refine h_val (i := 15) (v := .pointer (some ⟨tb, 0, none⟩)) rfl (by kernel_rfl) (by kernel_rfl) (by kernel_rfl) (fun _ _ _ h => h) (by rfl) (fun wz hS => ?_) KT.out ?_
        · skip
          go_simp
        go_frame
        refine h_val (i := 16) (v := .pointer (some ⟨tb, 5, none⟩)) rfl (by kernel_rfl) (by kernel_rfl) (by kernel_rfl) (fun _ _ _ h => h) (by rfl) (fun wz hS => ?_) KT.out ?_
        · skip
          go_simp
        go_frame
        refine h_all1 (i := 17) (by kernel_rfl) ?_
        refine o_step rfl (by rfl) ?_
        refine wp_skip (w' := w7.setCell ⟨tb, 5, none⟩ (.int .i64 J.id)) (by obtain ⟨q, q2⟩ := T_j.out.root5; go_simp) ?_
        refine ⟨trivial, ?_⟩
        go_frame
        refine h_done (by kernel_rfl) ?_
        go_wp2
        go_end0
        refine ⟨rfl, J, by rw [E7.out, E5.out], ((T_j.out.setRoot J.id).1).mono (fun k hk => hk.elim .inl (fun h => .inr (by omega))), ?_⟩
        have a1 : Off (UpS S w) w (w.drew.alloc (.map #[] 0)) := Off.below_r (Off.refl _ _) BM.out
        have a2 := a1.seq (O5.out.mono (S' := UpS S w) (fun k hk => hk.elim .inl (fun h => .inr (by omega))))
        have a3 := a2.seq (O7.out.mono (S' := UpS S w) (fun k hk => hk.elim .inl (fun h => .inr (by omega))))
        exact (a3.seq ((T_j.out.setRoot J.id).2.mono (S' := UpS S w) (fun k hk => hk.elim .inl (fun h => .inr (by omega))))).unup
  · skip
    refine o_step rfl (by rfl) ?_
    refine wp_map _ rfl ?_
    have T_m := Lib.hid (T_a.out.below (below_alloc1 w.drew (.map #[] 0)))
    have O_m := Lib.hid (O_a.out.below (below_alloc1 w.drew (.map #[] 0)))
    refine ⟨trivial, ?_⟩
    go_frame
    refine h_all2 (i := 5) (j := 11) (by kernel_rfl) ?_ ?_
    · skip
      refine o_step rfl (by rfl) ?_
      refine wp_val (.int .i64 R.id) (by have q := T_m.out.root5.1; generalize w.drew.alloc (Obj.map #[] 0) = W9 at q ⊢; go_simp) ?_
      refine ⟨trivial, ?_⟩
      go_frame
      refine h_all1 (i := 11) (by kernel_rfl) ?_
      refine o_step rfl (by rfl) ?_
      refine wp_val (.int .i64 O.id) (by have q := O_m.out.root5.1; generalize w.drew.alloc (Obj.map #[] 0) = W9 at q ⊢; go_simp) ?_
      refine ⟨trivial, ?_⟩
      go_frame
      refine h_all1 (i := 13) (by kernel_rfl) ?_
      refine o_call (f := 55) (args := #[.pointer (some ⟨tb, 0, none⟩), .pointer (some ⟨ob, 0, none⟩), .int .i64 O.id, .map (some w.heap.size)]) rfl (by rfl) (by go_simp) ?_
      refine (adopt_any O Q (fun k => S k ∨ w.heap.size + 1 ≤ k) [R] _ So an cn U VV O.id A C T_m.out (fun k hk => .inr (by rw [World.size_alloc] at hk; exact hk)) HO.out HI.out HD.out (fun k hk => by have := HLO.out k hk; rw [World.size_alloc]; show k < w.heap.size + 1; omega) (heap_alloc_map w.drew) (fun hl => by rcases hl with hl | hl; (have := HLT.out _ hl; omega); omega) (by have := HQ.out; omega)).mono ?_
      rintro e w5 ⟨T', rfl, -, eT, ss, oo⟩
      have T_d := Lib.hid ss
      have E5 := Lib.hid eT
      have O5 := Lib.hid oo
      clear ss oo eT
      refine ⟨_, rfl, trivial, ?_⟩
      go_frame
      refine h_all1 (i := 14) (by kernel_rfl) ?_
      refine o_call (f := 59) (args := #[.pointer (some ⟨tb, 0, none⟩), .int .i64 R.id, .int .i64 T'.id]) rfl (by rfl) (by go_simp) ?_
      refine (join_any R T' T_d.out.swap (fun k hk => .inr (by have := O5.out.size; rw [World.size_alloc] at this; exact Nat.le_trans this hk)) HQ.out).mono ?_
      rintro e w7 ⟨J, rfl, eJ, ss, oo⟩
      have T_j := Lib.hid ss
      have E7 := Lib.hid eJ
      have O7 := Lib.hid oo
      clear ss oo eJ
      refine ⟨_, rfl, trivial, ?_⟩
      go_frame
      refine h_val (i := 15) (v := .pointer (some ⟨tb, 0, none⟩)) rfl (by kernel_rfl) (by kernel_rfl) (by kernel_rfl) (fun _ _ _ h => h) (by rfl) (fun wz hS => ?_) KT.out ?_
      · skip
        go_simp
      go_frame
      refine h_val (i := 16) (v := .pointer (some ⟨tb, 5, none⟩)) rfl (by kernel_rfl) (by kernel_rfl) (by kernel_rfl) (fun _ _ _ h => h) (by rfl) (fun wz hS => ?_) KT.out ?_
      · skip
        go_simp
      go_frame
      refine h_all1 (i := 17) (by kernel_rfl) ?_
      refine o_step rfl (by rfl) ?_
      refine wp_skip (w' := w7.setCell ⟨tb, 5, none⟩ (.int .i64 J.id)) (by obtain ⟨q, q2⟩ := T_j.out.root5; go_simp) ?_
      refine ⟨trivial, ?_⟩
      go_frame
      refine h_done (by kernel_rfl) ?_
      go_wp2
      go_end0
      refine ⟨rfl, J, by rw [E7.out, E5.out], ((T_j.out.setRoot J.id).1).mono (fun k hk => hk.elim .inl (fun h => .inr (by omega))), ?_⟩
      have a1 : Off (UpS S w) w (w.drew.alloc (.map #[] 0)) := Off.below_r (Off.refl _ _) BM.out
      have a2 := a1.seq (O5.out.mono (S' := UpS S w) (fun k hk => hk.elim .inl (fun h => .inr (by omega))))
      have a3 := a2.seq (O7.out.mono (S' := UpS S w) (fun k hk => hk.elim .inl (fun h => .inr (by omega))))
      exact (a3.seq ((T_j.out.setRoot J.id).2.mono (S' := UpS S w) (fun k hk => hk.elim .inl (fun h => .inr (by omega))))).unup
    · skip
      refine o_step rfl (by rfl) ?_
      refine wp_val (.int .i64 O.id) (by have q := O_m.out.root5.1; generalize w.drew.alloc (Obj.map #[] 0) = W9 at q ⊢; go_simp) ?_
      refine ⟨trivial, ?_⟩
      go_frame
      refine h_all2 (i := 5) (j := 13) (by kernel_rfl) ?_ ?_
      · skip
        refine o_step rfl (by rfl) ?_
        refine wp_val (.int .i64 R.id) (by have q := T_m.out.root5.1; generalize w.drew.alloc (Obj.map #[] 0) = W9 at q ⊢; go_simp) ?_
        refine ⟨trivial, ?_⟩
        go_frame
        refine h_all1 (i := 13) (by kernel_rfl) ?_
        refine o_call (f := 55) (args := #[.pointer (some ⟨tb, 0, none⟩), .pointer (some ⟨ob, 0, none⟩), .int .i64 O.id, .map (some w.heap.size)]) rfl (by rfl) (by go_simp) ?_
        refine (adopt_any O Q (fun k => S k ∨ w.heap.size + 1 ≤ k) [R] _ So an cn U VV O.id A C T_m.out (fun k hk => .inr (by rw [World.size_alloc] at hk; exact hk)) HO.out HI.out HD.out (fun k hk => by have := HLO.out k hk; rw [World.size_alloc]; show k < w.heap.size + 1; omega) (heap_alloc_map w.drew) (fun hl => by rcases hl with hl | hl; (have := HLT.out _ hl; omega); omega) (by have := HQ.out; omega)).mono ?_
        rintro e w5 ⟨T', rfl, -, eT, ss, oo⟩
        have T_d := Lib.hid ss
        have E5 := Lib.hid eT
        have O5 := Lib.hid oo
        clear ss oo eT
        refine ⟨_, rfl, trivial, ?_⟩
        go_frame
        refine h_all1 (i := 14) (by kernel_rfl) ?_
        refine o_call (f := 59) (args := #[.pointer (some ⟨tb, 0, none⟩), .int .i64 R.id, .int .i64 T'.id]) rfl (by rfl) (by go_simp) ?_
        refine (join_any R T' T_d.out.swap (fun k hk => .inr (by have := O5.out.size; rw [World.size_alloc] at this; exact Nat.le_trans this hk)) HQ.out).mono ?_
        rintro e w7 ⟨J, rfl, eJ, ss, oo⟩
        have T_j := Lib.hid ss
        have E7 := Lib.hid eJ
        have O7 := Lib.hid oo
        clear ss oo eJ
        refine ⟨_, rfl, trivial, ?_⟩
        go_frame
        refine h_val (i := 15) (v := .pointer (some ⟨tb, 0, none⟩)) rfl (by kernel_rfl) (by kernel_rfl) (by kernel_rfl) (fun _ _ _ h => h) (by rfl) (fun wz hS => ?_) KT.out ?_
        · skip
          go_simp
        go_frame
        refine h_val (i := 16) (v := .pointer (some ⟨tb, 5, none⟩)) rfl (by kernel_rfl) (by kernel_rfl) (by kernel_rfl) (fun _ _ _ h => h) (by rfl) (fun wz hS => ?_) KT.out ?_
        · skip
          go_simp
        go_frame
        refine h_all1 (i := 17) (by kernel_rfl) ?_
        refine o_step rfl (by rfl) ?_
        refine wp_skip (w' := w7.setCell ⟨tb, 5, none⟩ (.int .i64 J.id)) (by obtain ⟨q, q2⟩ := T_j.out.root5; go_simp) ?_
        refine ⟨trivial, ?_⟩
        go_frame
        refine h_done (by kernel_rfl) ?_
        go_wp2
        go_end0
        refine ⟨rfl, J, by rw [E7.out, E5.out], ((T_j.out.setRoot J.id).1).mono (fun k hk => hk.elim .inl (fun h => .inr (by omega))), ?_⟩
        have a1 : Off (UpS S w) w (w.drew.alloc (.map #[] 0)) := Off.below_r (Off.refl _ _) BM.out
        have a2 := a1.seq (O5.out.mono (S' := UpS S w) (fun k hk => hk.elim .inl (fun h => .inr (by omega))))
        have a3 := a2.seq (O7.out.mono (S' := UpS S w) (fun k hk => hk.elim .inl (fun h => .inr (by omega))))
        exact (a3.seq ((T_j.out.setRoot J.id).2.mono (S' := UpS S w) (fun k hk => hk.elim .inl (fun h => .inr (by omega))))).unup
      · skip
        refine o_call (f := 55) (args := #[.pointer (some ⟨tb, 0, none⟩), .pointer (some ⟨ob, 0, none⟩), .int .i64 O.id, .map (some w.heap.size)]) rfl (by rfl) (by go_simp) ?_
        refine (adopt_any O Q (fun k => S k ∨ w.heap.size + 1 ≤ k) [R] _ So an cn U VV O.id A C T_m.out (fun k hk => .inr (by rw [World.size_alloc] at hk; exact hk)) HO.out HI.out HD.out (fun k hk => by have := HLO.out k hk; rw [World.size_alloc]; show k < w.heap.size + 1; omega) (heap_alloc_map w.drew) (fun hl => by rcases hl with hl | hl; (have := HLT.out _ hl; omega); omega) (by have := HQ.out; omega)).mono ?_
        rintro e w5 ⟨T', rfl, -, eT, ss, oo⟩
        have T_d := Lib.hid ss
        have E5 := Lib.hid eT
        have O5 := Lib.hid oo
        clear ss oo eT
        refine ⟨_, rfl, trivial, ?_⟩
        go_frame
        refine h_all1 (i := 5) (by kernel_rfl) ?_
        refine o_step rfl (by rfl) ?_
        refine wp_val (.int .i64 R.id) (by have q := T_d.out.root5.1; go_simp) ?_
        refine ⟨trivial, ?_⟩
        go_frame
        refine h_all1 (i := 14) (by kernel_rfl) ?_
        refine o_call (f := 59) (args := #[.pointer (some ⟨tb, 0, none⟩), .int .i64 R.id, .int .i64 T'.id]) rfl (by rfl) (by go_simp) ?_
        refine (join_any R T' T_d.out.swap (fun k hk => .inr (by have := O5.out.size; rw [World.size_alloc] at this; exact Nat.le_trans this hk)) HQ.out).mono ?_
        rintro e w7 ⟨J, rfl, eJ, ss, oo⟩
        have T_j := Lib.hid ss
        have E7 := Lib.hid eJ
        have O7 := Lib.hid oo
        clear ss oo eJ
        refine ⟨_, rfl, trivial, ?_⟩
        go_frame
        refine h_val (i := 15) (v := .pointer (some ⟨tb, 0, none⟩)) rfl (by kernel_rfl) (by kernel_rfl) (by kernel_rfl) (fun _ _ _ h => h) (by rfl) (fun wz hS => ?_) KT.out ?_
        · skip
          go_simp
        go_frame
        refine h_val (i := 16) (v := .pointer (some ⟨tb, 5, none⟩)) rfl (by kernel_rfl) (by kernel_rfl) (by kernel_rfl) (fun _ _ _ h => h) (by rfl) (fun wz hS => ?_) KT.out ?_
        · skip
          go_simp
        go_frame
        refine h_all1 (i := 17) (by kernel_rfl) ?_
        refine o_step rfl (by rfl) ?_
        refine wp_skip (w' := w7.setCell ⟨tb, 5, none⟩ (.int .i64 J.id)) (by obtain ⟨q, q2⟩ := T_j.out.root5; go_simp) ?_
        refine ⟨trivial, ?_⟩
        go_frame
        refine h_done (by kernel_rfl) ?_
        go_wp2
        go_end0
        refine ⟨rfl, J, by rw [E7.out, E5.out], ((T_j.out.setRoot J.id).1).mono (fun k hk => hk.elim .inl (fun h => .inr (by omega))), ?_⟩
        have a1 : Off (UpS S w) w (w.drew.alloc (.map #[] 0)) := Off.below_r (Off.refl _ _) BM.out
        have a2 := a1.seq (O5.out.mono (S' := UpS S w) (fun k hk => hk.elim .inl (fun h => .inr (by omega))))
        have a3 := a2.seq (O7.out.mono (S' := UpS S w) (fun k hk => hk.elim .inl (fun h => .inr (by omega))))
        exact (a3.seq ((T_j.out.setRoot J.id).2.mono (S' := UpS S w) (fun k hk => hk.elim .inl (fun h => .inr (by omega))))).unup
end
end Go.Proofs.Ytjgfgpkaeddjhaa

/- UD -/
/- UD: a rope put behind another -/
namespace Go.Proofs.Ytjgfgpkaeddjhaa
open Go.RowKit
set_option linter.unusedVariables false
set_option maxRecDepth 100000
section
variable {S So : Nat → Prop} {tb rb ob : Nat} {l m : List Int} {w w' W : World}
theorem rope_readS (h : Rp S rb l w) : Calls Try.prog 25 #[.pointer (some ⟨rb, 0, none⟩)] w fun e w' => ∃ (tb : Nat) (S' : Nat → Prop), e = .returned (.pointer (some ⟨tb, 0, none⟩)) ∧ Tq S' tb l w' ∧ (∀ k, S' k → UpS S w k) ∧ Below w.heap.size w w' := by
  rcases h with ⟨rfl, h, hs⟩ | ⟨tb, S', h, ht, hx, hs⟩
  · have c0 : w.cell? ⟨rb, 0, none⟩ = some (.pointer none) := h.cell 0
    have HB := Lib.hid (blank_any w)
    clear h hs
    go_enter Try.func25, Try.ntmps25
    go_wp2_with (go_at_call 44; refine HB.out.mono ?_; rintro e w1 ⟨tb, rfl, ss, bb⟩; have SS := Lib.hid (Tq.of_blank ss); have BB := Lib.hid bb; clear ss bb)
    go_ret
    exact ⟨tb, _, rfl, SS.out, fun k hk => .inr hk.1, BB.out⟩
  · have c0 : w.cell? ⟨rb, 0, none⟩ = some (.pointer (some ⟨tb, 0, none⟩)) := h.cell 0
    have HT := Lib.hid ht
    have HX := Lib.hid hx
    clear h hs hx ht
    go_enter Try.func25, Try.ntmps25
    go_wp2
    go_ret
    exact ⟨tb, S', rfl, HT.out, fun k hk => .inl (HX.out k hk).1, Below.refl _ _⟩
set_option maxHeartbeats 1000000 in
theorem rope_concat (h : Rp S rb l w) (ho : Rp So ob m w) (hd : ∀ k, So k → ¬ S k) (hlt : ∀ k, S k → k < w.heap.size) (hlo : ∀ k, So k → k < w.heap.size) (hQ : l.length + m.length + 32 ≤ 400000) :
    Calls Try.prog 18 #[.pointer (some ⟨rb, 0, none⟩), .pointer (some ⟨ob, 0, none⟩)] w fun e w' => e = .returned (.int .i64 0) ∧ Rp (fun k => UpS S w k ∧ k < w'.heap.size) rb (l ++ m) w' ∧ Off S w w' := by
  have HL := Lib.hid (rope_len ho)
  have HL2 := Lib.hid (fun (w' : World) (hb : Below w.heap.size w w') => rope_len (h.below hb))
  have H0 := Lib.hid h
  have G0 := Lib.hid ho
  have HD := Lib.hid hd
  have HLO := Lib.hid hlo
  have HQ := Lib.hid hQ
  obtain ⟨n1, hn1⟩ : ∃ n, l.length = n := ⟨_, rfl⟩
  obtain ⟨n2, hn2⟩ : ∃ n, m.length = n := ⟨_, rfl⟩
  rw [hn1] at HL2
  rw [hn2] at HL
  have u1 : 0 ≤ 536870912 - ((n1 : Nat) : Int) := by omega
  have u2 : 536870912 - ((n1 : Nat) : Int) ≤ 536870912 := by omega
  have d1 : decide (536870912 - ((n1 : Nat) : Int) < ((n2 : Nat) : Int)) = false := decide_eq_false (by omega)
  clear h ho hd hlt hlo hQ hn1 hn2
  go_enter Try.func18, Try.ntmps18
  go_wp2_with (first
    | (go_at_call 19; with_reducible refine HL.out.mono ?_; clear HL; rintro e w1 ⟨rfl, bb⟩; have B1 := Lib.hid bb; clear bb)
    | (go_at_call 19; with_reducible refine (HL2.out _ B1.out).mono ?_; clear HL2; rintro e w2 ⟨rfl, bb⟩; have B2 := Lib.hid (below_add B1.out bb B1.out.size); have H2 := Lib.hid (H0.out.below B2.out); have G2 := Lib.hid (G0.out.below B2.out); clear bb B1)
    | (go_at_call 35; refine (rope_write H2.out).mono ?_; rintro e w3 ⟨tb, S', rfl, cc, ⟨R, q1, q2, q3⟩, hs, oo⟩; have C3 := Lib.hid cc; have T3 := Lib.hid q1; have E3 := Lib.hid q2; have HS3 := Lib.hid hs; have HW3 := Lib.hid q3; have G3 := Lib.hid (G2.out.off oo HD.out); have Z3 := Lib.hid oo.size; have O3 := Lib.hid ((Off.below_r (Off.refl S w) B2.out).seq oo); clear cc q1 q2 q3 hs oo)
    | (go_at_call 25; refine (rope_readS G3.out).mono ?_; rintro e w4 ⟨pb, S'', rfl, ⟨O, q1, q2, q3⟩, hs, bb⟩; have T4 := Lib.hid (T3.out.below bb); have C4 := Lib.hid (C3.out.below bb); have P4 := Lib.hid q1; have F4 := Lib.hid q2; have HS4 := Lib.hid hs; have HW4 := Lib.hid q3; have O4 := Lib.hid (O3.out.below_r bb); have Z4 := Lib.hid bb.size; clear bb q1 q2 q3 hs)
    | (go_at_call 40; refine (treeConcat_any R O T4.out P4.out (fun k hk hl => by
        have a1 := HW3.out k hl
        have a2 := (HS3.out k hl).1
        have a3 := B2.out.size
        rcases HS4.out k hk with h | h
        · have a4 := HLO.out k h
          rcases a2 with a2 | a2
          · exact HD.out k h a2
          · omega
        · omega) (fun k hk => by have := HW3.out k hk; have := Z4.out; omega) HW4.out (by rw [F4.out]; exact HQ.out)).mono ?_; rintro e w5 ⟨rfl, R', q1, q2, oo⟩; have E5 := Lib.hid q1; have T5 := Lib.hid q2; have O5 := Lib.hid oo; clear q1 q2 oo))
  go_ret
  have hz2 := B2.out.size
  have hz3 := Z3.out
  have hz4 := Z4.out
  have hs : ∀ k, _ → UpS S w k ∧ k ≠ rb := fun k hk => ⟨(HS3.out k hk).1.elim .inl (fun h => .inr (by omega)), (HS3.out k hk).2⟩
  have hr := Rp.remade (S := UpS S w) C4.out hs (.inl H0.out.mem.1) (fun k hk => .inr (by omega)) R' T5.out (O5.out.mono (fun k hk => .inl hk))
  rw [E5.out, E3.out, F4.out] at hr
  exact ⟨rfl, hr.1.cut, ((O4.out.mono (fun k hk => .inl hk)).seq hr.2).unup⟩
end
end Go.Proofs.Ytjgfgpkaeddjhaa

/- UE -/
/- UE: calls at places that are not there; where a line begins is one place alone -/
namespace Go.Proofs.Ytjgfgpkaeddjhaa
open Go.RowKit
set_option linter.unusedVariables false
set_option maxRecDepth 100000
theorem nl_take_mono (l : List Int) {a b : Nat} (h : a ≤ b) : nl (l.take a) ≤ nl (l.take b) := by
  have e : l.take b = l.take a ++ (l.take b).drop a := by
    rw [show l.take a = (l.take b).take a by rw [List.take_take, Nat.min_eq_left h], List.take_append_drop]
  rw [e, nl_app]
  omega
theorem Starts.one {l : List Int} {n o p : Nat} (h : Starts l n o) (h2 : Starts l n p) : o = p := by
  obtain ⟨a1, a2, a3, a4⟩ := h
  obtain ⟨b1, b2, b3, b4⟩ := h2
  by_cases hn : n = 0
  · rw [a3 hn, b3 hn]
  · obtain ⟨a5, -, a6⟩ := a4 (by omega)
    obtain ⟨b5, -, b6⟩ := b4 (by omega)
    by_cases h1 : o < p
    · have := nl_take_mono l (show o ≤ p - 1 by omega)
      omega
    · by_cases h2 : p < o
      · have := nl_take_mono l (show p ≤ o - 1 by omega)
        omega
      · omega
section
variable {S : Nat → Prop} {tb rb : Nat} {l : List Int} {w w' W : World}
theorem reach_no {n : Nat} {i j : Int} (h : ¬ (0 ≤ i ∧ i ≤ j ∧ j ≤ n)) : reachE n i j = 5 := by unfold reachE; rw [if_neg h]
theorem rope_lineofNo (h : Rp S rb l w) (i : Int) (hi : ¬ (0 ≤ i ∧ i ≤ (l.length : Nat))) : Calls Try.prog 12 #[.pointer (some ⟨rb, 0, none⟩), .int .i64 i] w fun e w' => e = .returned (.tuple #[.int .i64 0, .int .i64 5]) ∧ Below w.heap.size w w' := by
  have hr := rope_reach h i i
  rw [reach_no (by omega)] at hr
  have HRE := Lib.hid hr
  clear h hi hr
  go_enter Try.func12, Try.ntmps12
  go_wp2_with (go_at_call 28; refine HRE.out.mono ?_; clear HRE; rintro e w1 ⟨rfl, bb⟩; have BB := Lib.hid bb; clear bb)
  go_ret2
  exact ⟨rfl, BB.out⟩
theorem rope_splitNo (h : Rp S rb l w) (i : Int) (hi : ¬ (0 ≤ i ∧ i ≤ (l.length : Nat))) : Calls Try.prog 14 #[.pointer (some ⟨rb, 0, none⟩), .int .i64 i] w fun e w' => e = .returned (.tuple #[.pointer none, .int .i64 5]) ∧ Below w.heap.size w w' := by
  have hr := rope_reach h i i
  rw [reach_no (by omega)] at hr
  have HRE := Lib.hid hr
  clear h hi hr
  go_enter Try.func14, Try.ntmps14
  go_wp2_with (go_at_call 28; refine HRE.out.mono ?_; clear HRE; rintro e w1 ⟨rfl, bb⟩; have BB := Lib.hid bb; clear bb)
  go_ret2
  exact ⟨rfl, BB.out⟩
theorem rope_deleteNo (h : Rp S rb l w) (i j : Int) (hi : ¬ (0 ≤ i ∧ i ≤ j ∧ j ≤ (l.length : Nat))) : Calls Try.prog 17 #[.pointer (some ⟨rb, 0, none⟩), .int .i64 i, .int .i64 j] w fun e w' => e = .returned (.int .i64 5) ∧ Below w.heap.size w w' := by
  have hr := rope_reach h i j
  rw [reach_no (by omega)] at hr
  have HRE := Lib.hid hr
  clear h hi hr
  go_enter Try.func17, Try.ntmps17
  go_wp2_with (go_at_call 28; refine HRE.out.mono ?_; clear HRE; rintro e w1 ⟨rfl, bb⟩; have BB := Lib.hid bb; clear bb)
  go_ret
  exact ⟨rfl, BB.out⟩
theorem rope_sliceNo (h : Rp S rb l w) (i j : Int) (hi : ¬ (0 ≤ i ∧ i ≤ j ∧ j ≤ (l.length : Nat))) : Calls Try.prog 11 #[.pointer (some ⟨rb, 0, none⟩), .int .i64 i, .int .i64 j] w fun e w' => e = .returned (.tuple #[.slice none 0 0, .int .i64 5]) ∧ Below w.heap.size w w' := by
  have hr := rope_reach h i j
  rw [reach_no (by omega)] at hr
  have HRE := Lib.hid hr
  clear h hi hr
  go_enter Try.func11, Try.ntmps11
  go_wp2_with (go_at_call 28; refine HRE.out.mono ?_; clear HRE; rintro e w1 ⟨rfl, bb⟩; have BB := Lib.hid bb; clear bb)
  go_ret2
  exact ⟨rfl, BB.out⟩
theorem rope_offsetNeg (h : Rp S rb l w) (k : Int) (hk : k < 0) : Calls Try.prog 13 #[.pointer (some ⟨rb, 0, none⟩), .int .i64 k] w fun e w' => e = .returned (.tuple #[.int .i64 0, .int .i64 5]) ∧ Below w.heap.size w w' := by
  have d1 : decide (k < 0) = true := decide_eq_true hk
  have HB := Lib.hid (Below.refl w.heap.size w)
  clear h hk
  go_enter Try.func13, Try.ntmps13
  go_wp2
  go_ret2
  exact ⟨rfl, HB.out⟩
end
end Go.Proofs.Ytjgfgpkaeddjhaa
