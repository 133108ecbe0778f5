
import Derived.Test.YteodfbkfpboehaaDBX
import Derived.Deep.AppendLies
import Derived.RegionTactic
import Derived.WideMake
/- DCX: the next place of an arena of rubric/para.run -/
namespace Go.Proofs.Yteodfbkfpboehaa
open Go.RowKit
set_option linter.unusedVariables false

theorem pbuilt_X : Try.prog.built 143 [] = some (plT K_X none).toArray := by kernel_rfl
theorem psl_X : Try.prog.builtSlice 143 1 [(0, .agg (plT K_X none).toArray)] = some (plT K_X none).toArray := by kernel_rfl
set_option maxRecDepth 100000 in
theorem info_pl_X : ∃ i, Try.prog.info? 143 = some i ∧ i.zero = some (.agg (plT K_X none).toArray) ∧ i.size = 3 ∧ i.bytes = 40 := ⟨_, rfl, rfl, rfl, rfl⟩
set_option maxRecDepth 100000 in
theorem info_in_X : ∃ i, Try.prog.info? 3 = some i ∧ i.zero = some (.int .i64 0) ∧ i.size = 1 ∧ i.bytes = 8 := ⟨_, rfl, rfl, rfl, rfl⟩
section
variable {S : Nat → Prop} {ab st : Nat} {sv fv : Value} {ps : List (Option Ck)} {fr : List Nat}
set_option maxRecDepth 100000 in
set_option maxHeartbeats 1000000 in
/-- next, where no place is free. -/
theorem next_new_X (w : World) (h : AtM K_X S ab st sv fv ps [] w) (hl : ps.length ≤ 1000000) :
    Calls Try.prog 86 #[.pointer (some ⟨st, 0, none⟩)] w fun e w' => e = .returned (.int .i64 (ps.length : Nat)) ∧
      (∃ sv', AtM K_X (fun k => S k ∨ w.heap.size ≤ k) ab st sv' fv (ps ++ [none]) [] w') ∧ Off S w w' := by
  obtain ⟨i0, hi, hz0, hz1, hz2⟩ := info_pl_X
  obtain ⟨-, c2, c3⟩ := h.cells
  obtain ⟨fa, fc, rfl, -, -⟩ := own_shape h.hfv
  obtain ⟨sa, sc, rfl, -, -⟩ := own_shape h.hsv
  obtain ⟨PZ, hPZ⟩ : ∃ PZ, (plT K_X none).toArray = PZ := ⟨_, rfl⟩
  have HPB := Lib.hid pbuilt_X
  have HPS := Lib.hid psl_X
  rw [hPZ] at HPB HPS hz0
  have hbA := (Below.refl w.heap.size w).alloc (Nat.le_refl _) (.cells PZ 143)
  have M0 := Lib.hid ((h.below hbA).mono (S' := fun k => S k ∨ w.heap.size ≤ k) (fun k hk => .inl hk))
  have O0 := Lib.hid (Off.of_below (S := fun k => S k ∨ w.heap.size ≤ k) hbA)
  have HN := Lib.hid (heap_alloc_new w (.cells PZ 143))
  have e4 : fl (plTC K_X) (ps ++ [none]) = fl (plTC K_X) ps ++ PZ.toList := by rw [fl_app, fl_one, ← hPZ]; rfl
  have HE := Lib.hid e4
  have HL : Hid (PZ.toList.length = 3) := Lib.hid (by rw [← hPZ]; exact plT_len K_X none)
  have H1 : Hid (∀ v ∈ PZ.toList, v.oneCell' = true) := Lib.hid (by rw [← hPZ]; exact plT_one K_X none)
  have HZC : Hid ((Value.agg PZ).cells.size = 3) := Lib.hid (by have := HL.out; simpa [Value.cells] using this)
  clear h hbA e4 hPZ
  have hfl : decide ((0 : Int) - 1 < 0) = true := by decide
  go_enter Try.func86, Try.ntmps86
  go_wp2_with (first
    | (refine wpList_buildL rfl 143 _ rfl _ rfl [] rfl PZ HPB.out ?_)
    | (refine wpList_buildSliceL rfl 144 143 1 _ rfl w.heap.size rfl _ rfl Try.underlying144 [(0, .agg PZ)] rfl PZ HPS.out ?_)
    | (at_builtin; refine wpList_append_lies _ rfl (.tmp 17) (.tmp 19) 144 rfl 0 143 i0 (.agg PZ) 3 40 Try.underlying144 hi hz0 hz1 hz2 HZC.out (by decide) (.slice sa ps.length sc) ps.length (fl (plTC K_X) ps) rfl M0.out.hsv ⟨w.heap.size, 0, none⟩ 1 1 PZ.toList rfl HL.out (World.news_of_block HN.out) H1.out (by decide) (by unfold maxLen; omega) (by omega) (Nat.zero_le _) _ rfl ?_; intro g4 cap4 w4 ho4 hg4 ha4 hl4; refine Hid.out ?_))
  refine Lib.hid ?_
  have hst4 := far hg4 M0.out.hst (fun g' hg' => by
    obtain ⟨cur, hc⟩ := own_tag M0.out.hsv hg'
    exact ⟨_, hc, fun e => by injection e with _ e _; exact K_X.nSP e.symm⟩)
  have c4 : w4.cell? ⟨st, 0, none⟩ = some (.slice sa ps.length sc) := by rw [cell_of_row w4 st 0 _ _ _ hst4]; rfl
  have f4 : w4.frozen? ⟨st, 0, none⟩ = false := by simp [World.frozen?, hst4]
  have c5 : (w4.setCell ⟨st, 0, none⟩ (.slice (some ⟨g4, 0, none⟩) (ps.length + 1) cap4)).cell? ⟨st, 0, none⟩ = some (.slice (some ⟨g4, 0, none⟩) (ps.length + 1) cap4) := World.cell?_setCell_same _ _ _ c4
  have l4 : (ps ++ [none]).length = ps.length + 1 := by simp
  have ho5 : w4.ownsRow 0 143 3 (.slice (some ⟨g4, 0, none⟩) (ps.length + 1) cap4) (ps ++ [none]).length (fl (plTC K_X) (ps ++ [none])) := by rw [HE.out, l4]; exact ho4
  have M5 := Lib.hid (M0.out.resets (ps' := ps ++ [none]) hg4 ho5 (fun g' hg' => by
    cases hg'
    rcases ha4 with e | e
    · exact M0.out.sSv _ e
    · right; have := O0.out.size; show w.heap.size ≤ g4; omega))
  have O5 := Lib.hid ((O0.out.seq (Off.of_grown hg4 (fun g' hg' => M0.out.sSv g' hg'))).seq (Off.of_grown (grown_set (w := w4) (g := st) (o := 0) (.slice (some ⟨g4, 0, none⟩) (ps.length + 1) cap4)) (fun g' hg' => by cases hg'; exact M0.out.sSt)))
  clear hg4 ha4 ho4 ho5 hst4 l4 c2 c3 HE HN M0 O0 HPB HPS HL H1 HZC
  go_wp2
  go_ret
  exact ⟨rfl, ⟨_, M5.out⟩, O5.out.cut⟩

set_option maxRecDepth 100000 in
set_option maxHeartbeats 1000000 in
/-- next, where one is. -/
theorem next_old_X (w : World) {i : Nat} {fr0 : List Nat} (h : AtM K_X S ab st sv fv ps (fr0 ++ [i]) w) (hl : fr0.length ≤ 1000000) :
    Calls Try.prog 86 #[.pointer (some ⟨st, 0, none⟩)] w fun e w' => e = .returned (.int .i64 (i : Nat)) ∧
      (∃ fv', AtM K_X (fun k => S k ∨ w.heap.size ≤ k) ab st sv fv' ps fr0 w') ∧ Off S w w' := by
  obtain ⟨-, c2, c3⟩ := h.cells
  have l0 : (fr0 ++ [i]).length = fr0.length + 1 := by simp
  have hfv := h.hfv
  obtain ⟨g, cap, rfl, -, hg⟩ := h.hfv.form (by omega)
  have hcap : fr0.length + 1 ≤ cap := by
    rcases hfv.2 with ⟨hn, _⟩ | ⟨g', cap', cur, hv, _, _, hc, _⟩
    · cases hn
    · injection hv with _ _ e; subst e; omega
  have ci : w.cell? ⟨g, fr0.length, none⟩ = some (.int .i64 (i : Nat)) := by
    have := hfv.cells (g := g) rfl fr0.length (.int .i64 (i : Nat)) (by simp)
    rw [Go.WideShapes.add_plain] at this
    simpa using this
  have fi := h.nofreeze 1
  have ho5 : w.ownsRow 0 3 1 (.slice (some ⟨g, 0, none⟩) fr0.length cap) fr0.length (fr0.map fun i => Value.int .i64 (i : Nat)) := by
    refine ⟨by simp, ?_⟩
    rcases hfv.2 with ⟨hn, _⟩ | ⟨g', cap', cur, hv, hb, hh, hc, hm, hs, ht⟩
    · cases hn
    · injection hv with e1 e2 e3
      subst e3
      injection e1 with e1
      injection e1 with e1
      subst e1
      refine .inr ⟨g, cap, cur, rfl, hb, hh, by omega, hm, hs, ?_⟩
      rw [Nat.mul_one]
      rw [Nat.mul_one, l0] at ht
      have : (cur.toList.take (fr0.length + 1)).take fr0.length = ((fr0 ++ [i]).map fun i => Value.int .i64 (i : Nat)).take fr0.length := by rw [ht]
      rw [List.take_take, Nat.min_eq_left (by omega)] at this
      rw [this]
      simp
  have M5 := Lib.hid ((h.mono (S' := fun k => S k ∨ w.heap.size ≤ k) (fun k hk => .inl hk)).refree (w1 := w) ⟨rfl, rfl, rfl, Nat.le_refl _, fun _ _ _ => rfl⟩ ho5 (fun g' hg' => .inl (h.sFv g' hg')))
  have O5 := Lib.hid (Off.of_grown (S := S) (grown_set (w := w) (g := st) (o := 1) (.slice (some ⟨g, 0, none⟩) fr0.length cap)) (fun g' hg' => by cases hg'; exact h.sSt))
  rw [l0] at c3
  clear h hfv ho5 l0
  go_enter Try.func86, Try.ntmps86
  go_wp2
  go_ret
  exact ⟨rfl, ⟨_, M5.out⟩, O5.out⟩
/-- next, whether a place is free or none is. -/
theorem next_any_X (A : ArS Ck) (x : Ck) (w : World) (h : AtM K_X S ab st sv fv A.ps A.free w) (hl : A.ps.length ≤ 1000000) (hl2 : A.free.length ≤ 1000000) (hok : A.Ok) :
    Calls Try.prog 86 #[.pointer (some ⟨st, 0, none⟩)] w fun e w' => e = .returned (.int .i64 (A.fresh : Nat)) ∧ Off S w w' ∧
      ∃ sv' fv' ps', AtM K_X (fun k => S k ∨ w.heap.size ≤ k) ab st sv' fv' ps' (A.take x).free w' ∧ A.fresh < ps'.length ∧ ps'.length ≤ 1000001 ∧ ps'[A.fresh]? = some none ∧ ps'.set A.fresh (some x) = (A.take x).ps := by
  have hfr := hok.freeB
  have ha := freshA hok
  unfold ArS.take ArS.fresh
  unfold ArS.fresh at ha
  cases hf : A.free.getLast? with
  | some i =>
    obtain ⟨f0, e⟩ := List.getLast?_eq_some_iff.1 hf
    obtain ⟨b1, b2⟩ := hfr i (List.mem_of_getLast? hf)
    rw [e] at h hl2
    simp at hl2
    refine (next_old_X w h (by omega)).mono fun e1 w1 ⟨q1, ⟨fv', q2⟩, q3⟩ => ⟨q1, q3, sv, fv', A.ps, ?_, b1, by omega, ?_, rfl⟩
    · have e2 : A.free.dropLast = f0 := by rw [e, List.dropLast_concat]
      show AtM K_X _ ab st sv fv' A.ps A.free.dropLast w1
      rw [e2]; exact q2
    · rw [at_get b1, b2]
  | none =>
    have e : A.free = [] := by simpa using hf
    rw [e] at h
    refine (next_new_X w h hl).mono fun e1 w1 ⟨q1, ⟨sv', q2⟩, q3⟩ => ⟨q1, q3, sv', fv, A.ps ++ [none], ?_, by simp, by simp; omega, by simp, by simp⟩
    show AtM K_X _ ab st sv' fv (A.ps ++ [none]) A.free w1
    rw [e]; exact q2
end
end Go.Proofs.Yteodfbkfpboehaa
