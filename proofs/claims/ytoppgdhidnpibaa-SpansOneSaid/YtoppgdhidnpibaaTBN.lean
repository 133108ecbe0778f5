
import Derived.Test.YtoppgdhidnpibaaTA
import Derived.Test.YtoppgdhidnpibaaOG
import Derived.Carry
/- TBN: what an arena of rubric/tree.node tells -/
namespace Go.Proofs.Ytoppgdhidnpibaa
open Go.RowKit
set_option linter.unusedVariables false

/-- A node's numbers. -/
structure Nd where
  held : Int
  height : Int
  len : Int
  marks : Int
  left : Int
  right : Int
  thing : Int
@[reducible] def Nd.c (n : Nd) : List Value := [.int .i64 n.held, .int .i64 n.height, .int .i64 n.len, .int .i64 n.marks, .int .i64 n.left, .int .i64 n.right, .int .i64 n.thing]
theorem nd_one (n : Nd) : ∀ u ∈ n.c, u.oneCell' = true := by
  intro u hu
  simp only [Nd.c, List.mem_cons, List.not_mem_nil, or_false] at hu
  rcases hu with rfl | rfl | rfl | rfl | rfl | rfl | rfl <;> rfl
def nd0 : Nd := ⟨0, 0, 0, 0, 0, 0, 0⟩
def K_N : KT Nd := ⟨123, 120, 116, 7, Nd.c, nd0.c, fun _ => rfl, rfl, nd_one, nd_one nd0, by decide, by decide, by decide, by decide, by decide, by decide⟩

theorem zinfo_N : (Try.prog.info? 90).bind (·.zero) = some (.agg K_N.zc.toArray) := by kernel_rfl
theorem sinfo_N (cs : List Value) (h : cs.length = 7) : (Try.prog.info? 90).map (·.size) = some cs.length := by rw [h]; kernel_rfl
theorem ainfo_N (cs : Array Value) (h : cs.size = 7) : (Try.prog.info? 90).map (·.size) = some cs.size := by rw [h]; kernel_rfl
theorem pinfo_N (cs : Array Value) (h : cs.size = 8) : (Try.prog.info? 116).map (·.size) = some cs.size := by rw [h]; kernel_rfl
theorem csize_N (x : Nd) : (K_N.c x).toArray.size = 7 := by rw [List.size_toArray]; exact K_N.len x
theorem cone_N (x : Nd) : (K_N.c x).toArray.all (·.oneCell') = true := all_oneCell_toArray (K_N.one x)
section
variable {S : Nat → Prop} {ab st : Nat} {sv fv : Value} {ps : List (Option Nd)} {fr : List Nat}
theorem iszero_N (w : World) (h : AtM K_N S ab st sv fv ps fr w) :
    Calls Try.prog 89 #[.pointer (some ⟨ab, 0, none⟩)] w fun e w' => e = .returned (.bool false) ∧ w' = w := by
  obtain ⟨c0, -⟩ := h.cells
  clear h
  go_enter Try.func89, Try.ntmps89
  go_wp2
  go_ret
  exact ⟨rfl, rfl⟩
theorem cap_N (w : World) (h : AtM K_N S ab st sv fv ps fr w) :
    Calls Try.prog 87 #[.pointer (some ⟨ab, 0, none⟩)] w fun e w' => e = .returned (.int .i64 (ps.length : Nat)) ∧ w' = w := by
  obtain ⟨c0, c1, -⟩ := h.cells
  have HZ := Lib.hid (iszero_N w h)
  obtain ⟨sa, sc, rfl, -, -⟩ := own_shape h.hsv
  clear h
  go_enter Try.func87, Try.ntmps87
  go_wp2_with (go_at_call 89; refine HZ.out.mono ?_; rintro e w1 ⟨rfl, rfl⟩)
  go_ret
  exact ⟨rfl, rfl⟩
theorem taken_N (w : World) {g cap k : Nat} {p : Option Nd} (h : AtM K_N S ab st (.slice (some ⟨g, 0, none⟩) ps.length cap) fv ps fr w) (hk : ps[k]? = some p) :
    w.cell? ⟨g, k * 8, none⟩ = some (.bool p.isSome) := by
  have := (h.place hk).1 0 (.bool p.isSome) (by cases p <;> rfl)
  exact this
theorem find_yes_N (w : World) {g cap k : Nat} {x : Nd} (h : AtM K_N S ab st (.slice (some ⟨g, 0, none⟩) ps.length cap) fv ps fr w) (hk : ps[k]? = some (some x)) :
    Calls Try.prog 82 #[.pointer (some ⟨ab, 0, none⟩), .int .i64 (k : Nat)] w fun e w' => e = .returned (.tuple #[.pointer (some ⟨g, k * 8, none⟩), .int .i64 0]) ∧ w' = w := by
  obtain ⟨c0, c1, -⟩ := h.cells
  have HP := Lib.hid (cap_N w h)
  have p0 := taken_N w h hk
  have hlt := (List.getElem?_eq_some_iff.1 hk).1
  have g0 : decide ((k : Int) < 0) = false := by rw [decide_eq_false_iff_not]; omega
  have g1 : decide ((ps.length : Int) ≤ (k : Int)) = false := by rw [decide_eq_false_iff_not]; omega
  have k0 : (0 : Int) ≤ (k : Int) := by omega
  have k1 : (k : Int) < (ps.length : Int) := by omega
  clear h hk
  go_enter Try.func82, Try.ntmps82
  go_wp2_with (go_at_call 87; refine HP.out.mono ?_; rintro e w1 ⟨rfl, rfl⟩)
  exact bodyPost_ret (by simp [results, Try.results82, go_sem]) rfl ⟨rfl, rfl⟩
theorem find_no_N (A : ArS Nd) (i : Int) (w : World) (h : AtM K_N S ab st sv fv A.ps fr w) (hh : A.has i = false) :
    Calls Try.prog 82 #[.pointer (some ⟨ab, 0, none⟩), .int .i64 i] w fun e w' => e = .returned (.tuple #[.pointer none, .int .i64 5]) ∧ w' = w := by
  obtain ⟨c0, c1, -⟩ := h.cells
  have HP := Lib.hid (cap_N w h)
  by_cases h0 : i < 0
  · have g0 : decide (i < 0) = true := by rw [decide_eq_true_iff]; exact h0
    clear h hh
    go_enter Try.func82, Try.ntmps82
    go_wp2_with (go_at_call 87; refine HP.out.mono ?_; rintro e w1 ⟨rfl, rfl⟩)
    exact bodyPost_ret (by simp [results, Try.results82, go_sem]) rfl ⟨rfl, rfl⟩
  · have g0 : decide (i < 0) = false := by rw [decide_eq_false_iff_not]; exact h0
    by_cases h1 : (A.ps.length : Int) ≤ i
    · have g1 : decide ((A.ps.length : Int) ≤ i) = true := by rw [decide_eq_true_iff]; exact h1
      clear h hh
      go_enter Try.func82, Try.ntmps82
      go_wp2_with (go_at_call 87; refine HP.out.mono ?_; rintro e w1 ⟨rfl, rfl⟩)
      exact bodyPost_ret (by simp [results, Try.results82, go_sem]) rfl ⟨rfl, rfl⟩
    · have g1 : decide ((A.ps.length : Int) ≤ i) = false := by rw [decide_eq_false_iff_not]; exact h1
      obtain ⟨k, rfl⟩ : ∃ k : Nat, i = k := ⟨i.toNat, by omega⟩
      obtain ⟨g, cap, rfl, -, -⟩ := h.form (by omega)
      have hk : A.ps[k]? = some none := by
        rw [at_get (by omega)]
        rw [has_nat] at hh
        cases e : A.at_ k with
        | none => rfl
        | some x => rw [e] at hh; cases hh
      have p0 := taken_N w h hk
      have p0 : w.cell? ⟨g, k * 8, none⟩ = some (.bool false) := p0
      have k0 : (0 : Int) ≤ (k : Int) := by omega
      have k1 : (k : Int) < (A.ps.length : Int) := by omega
      clear h hh hk
      go_enter Try.func82, Try.ntmps82
      go_wp2_with (go_at_call 87; refine HP.out.mono ?_; rintro e w1 ⟨rfl, rfl⟩)
      exact bodyPost_ret (by simp [results, Try.results82, go_sem]) rfl ⟨rfl, rfl⟩

theorem results_at_N {W : World} {g : Nat} {cs : Array Value} {ty : TypeId} (hcs : cs.size = 7) (h : W.heap[g]? = some (.cells cs ty (0, 0))) (tm : Array Value) (h4 : tm.getD 4 undef = .pointer (some ⟨g, 0, none⟩)) {e : Int} (h5 : tm.getD 5 undef = .int .i64 e) :
    (results Try.f66 tm).run Try.prog W = .ok (.tuple #[.agg cs, .int .i64 e]) W := by
  have r4 := run_loadVar_row (P := Try.prog) W g _ 90 cs _ _ h Try.underlying90 rfl (ainfo_N cs hcs)
  have h4' : tm[4]?.getD undef = .pointer (some ⟨g, 0, none⟩) := by simpa using h4
  have h5' : tm[5]?.getD undef = .int .i64 e := by simpa using h5
  simp [results, Try.results66, h4', h5', asAddr, r4]
theorem at_yes_N (w : World) {g cap k : Nat} {x : Nd} (h : AtM K_N S ab st (.slice (some ⟨g, 0, none⟩) ps.length cap) fv ps fr w) (hk : ps[k]? = some (some x)) :
    Calls Try.prog 66 #[.pointer (some ⟨ab, 0, none⟩), .int .i64 (k : Nat)] w fun e w' => e = .returned (.tuple #[.agg (K_N.c x).toArray, .int .i64 0]) ∧ Below w.heap.size w w' := by
  have hbA := (Below.refl w.heap.size w).alloc (Nat.le_refl _) (.cells K_N.zc.toArray 90)
  have hA := h.below hbA
  have HF := Lib.hid (find_yes_N _ hA hk)
  have HR := Lib.hid (hA.thing hk)
  have HR : Hid ((w.alloc (.cells K_N.zc.toArray 90)).rangeAt g (k * 8 + 1) (K_N.c x)) := HR
  have HZ := Lib.hid (heap_alloc_new w (.cells K_N.zc.toArray 90))
  have HI := Lib.hid (sinfo_N (K_N.c x) (K_N.len x))
  have HS := Lib.hid (csize_N x)
  have HO := Lib.hid (cone_N x)
  have HB := Lib.hid (below_setRow hbA (Nat.le_refl _) (K_N.c x).toArray)
  have HW := Lib.hid (setRow_heap _ _ _ (K_N.c x).toArray _ _ HZ.out)
  clear h hk hbA hA
  go_enter Try.func66, Try.ntmps66
  go_wp2_with (first
    | (refine wpList_alloc_row rfl 90 rfl K_N.zc zinfo_N ?_)
    | (go_at_call 82; refine HF.out.mono ?_; rintro e w1 ⟨rfl, rfl⟩)
    | (refine wpList_load_midw (by rfl) 90 (.tmp 21) rfl g (k * 8 + 1) rfl (K_N.c x) _ HR.out Try.underlying90 rfl HI.out ?_)
    | (refine wpList_store_row rfl 90 (.tmp 4) (.tmp 22) rfl w.heap.size (K_N.c x).toArray rfl rfl _ _ HZ.out (ainfo_N _ HS.out) (by rw [HS.out]; rfl) HO.out ?_))
  exact bodyPost_ret (results_at_N HS.out HW.out _ rfl rfl) rfl ⟨rfl, HB.out⟩
theorem at_no_N (A : ArS Nd) (i : Int) (w : World) (h : AtM K_N S ab st sv fv A.ps fr w) (hh : A.has i = false) :
    Calls Try.prog 66 #[.pointer (some ⟨ab, 0, none⟩), .int .i64 i] w fun e w' => e = .returned (.tuple #[.agg K_N.zc.toArray, .int .i64 5]) ∧ Below w.heap.size w w' := by
  have hbA := (Below.refl w.heap.size w).alloc (Nat.le_refl _) (.cells K_N.zc.toArray 90)
  have hbC := hbA.alloc (by simp) (.cells K_N.zc.toArray 90)
  have hA := h.below hbA
  have HF := Lib.hid (find_no_N A i _ hA hh)
  have HZ := Lib.hid (heap_alloc_new w (.cells K_N.zc.toArray 90))
  have HZ2 := Lib.hid (heap_alloc_new (w.alloc (.cells K_N.zc.toArray 90)) (.cells K_N.zc.toArray 90))
  have HZ3 := Lib.hid ((heap_alloc_old (w.alloc (.cells K_N.zc.toArray 90)) (.cells K_N.zc.toArray 90) (lt_of_heap HZ.out)).trans HZ.out)
  have HS : Hid (K_N.zc.toArray.size = 7) := Lib.hid (by rw [List.size_toArray]; exact K_N.lenZ)
  have HO : Hid (K_N.zc.toArray.all (·.oneCell') = true) := Lib.hid (all_oneCell_toArray K_N.oneZ)
  have HB := Lib.hid (below_setRow hbC (Nat.le_refl _) K_N.zc.toArray)
  have HW := Lib.hid (setRow_heap _ _ _ K_N.zc.toArray _ _ HZ3.out)
  have hsz : (w.alloc (.cells K_N.zc.toArray 90)).heap.size = w.heap.size + 1 := by simp
  rw [hsz] at HZ2
  clear h hh hbA hA hbC hsz
  go_enter Try.func66, Try.ntmps66
  go_wp2_with (first
    | (refine wpList_alloc_row rfl 90 rfl K_N.zc zinfo_N ?_)
    | (go_at_call 82; refine HF.out.mono ?_; rintro e w1 ⟨rfl, rfl⟩)
    | (refine wpList_load_roww 90 (.tmp 8) rfl (w.heap.size + 1) rfl (by rfl) _ _ _ _ HZ2.out Try.underlying90 rfl (ainfo_N _ HS.out) ?_)
    | (refine wpList_store_row rfl 90 (.tmp 4) (.tmp 17) rfl w.heap.size K_N.zc.toArray rfl rfl _ _ HZ3.out (ainfo_N _ HS.out) rfl HO.out ?_))
  exact bodyPost_ret (results_at_N HS.out HW.out _ rfl rfl) rfl ⟨rfl, HB.out⟩
end
end Go.Proofs.Ytoppgdhidnpibaa
