
import Derived.Test.YteodfbkfpboehaaD6
import Derived.Carry
/- DBX: what an arena of rubric/para.run tells -/
namespace Go.Proofs.Yteodfbkfpboehaa
open Go.RowKit
set_option linter.unusedVariables false

/-- A set as it lies: the slice, and what it reads as. -/
structure Sv where
  a : Option Addr
  l : Nat
  c : Nat
  s : List Att
@[reducible] def Sv.v (x : Sv) : Value := .slice x.a x.l x.c
def sv0 : Sv := ⟨none, 0, 0, []⟩
/-- A run: how many records, and of which set. -/
structure Ck where
  n : Nat
  d : Sv
@[reducible] def Ck.c (x : Ck) : List Value := [.int .i64 x.n, x.d.v]
theorem ck_one (x : Ck) : ∀ u ∈ x.c, u.oneCell' = true := by
  intro u hu
  simp only [Ck.c, List.mem_cons, List.not_mem_nil, or_false] at hu
  rcases hu with rfl | rfl <;> rfl
def ck0 : Ck := ⟨0, sv0⟩
def K_X : KT Ck := ⟨149, 146, 143, 2, Ck.c, ck0.c, fun _ => rfl, rfl, ck_one, ck_one ck0, by decide, by decide, by decide, by decide, by decide, by decide⟩
/-- A run, as it lies. -/
def krow (x : Ck) : Array Value := #[.int .i64 x.n, x.d.v]
def czr : Array Value := #[.int .i64 ((0 : Nat) : Int), .slice none 0 0]
def cvs (x : Ck) : Value := .agg (krow x)
/-- The list that one run is: none, if it is without length. -/
def Ck.l (x : Ck) : List Ck := if x.n = 0 then [] else [x]
theorem krow_one (x : Ck) : (krow x).all (·.oneCell') = true := all_oneCell_toArray (ck_one x)
theorem xc_size (x : Ck) : (krow x).size = 2 := rfl
theorem xz_size : czr.size = 2 := rfl

theorem zinfo_X : (Try.prog.info? 61).bind (·.zero) = some (.agg K_X.zc.toArray) := by kernel_rfl
theorem sinfo_X (cs : List Value) (h : cs.length = 2) : (Try.prog.info? 61).map (·.size) = some cs.length := by rw [h]; kernel_rfl
theorem ainfo_X (cs : Array Value) (h : cs.size = 2) : (Try.prog.info? 61).map (·.size) = some cs.size := by rw [h]; kernel_rfl
theorem pinfo_X (cs : Array Value) (h : cs.size = 3) : (Try.prog.info? 143).map (·.size) = some cs.size := by rw [h]; kernel_rfl
theorem csize_X (x : Ck) : (K_X.c x).toArray.size = 2 := by rw [List.size_toArray]; exact K_X.len x
theorem cone_X (x : Ck) : (K_X.c x).toArray.all (·.oneCell') = true := all_oneCell_toArray (K_X.one x)
section
variable {S : Nat → Prop} {ab st : Nat} {sv fv : Value} {ps : List (Option Ck)} {fr : List Nat}
theorem iszero_X (w : World) (h : AtM K_X S ab st sv fv ps fr w) :
    Calls Try.prog 90 #[.pointer (some ⟨ab, 0, none⟩)] w fun e w' => e = .returned (.bool false) ∧ w' = w := by
  obtain ⟨c0, -⟩ := h.cells
  clear h
  go_enter Try.func90, Try.ntmps90
  go_wp2
  go_ret
  exact ⟨rfl, rfl⟩
theorem cap_X (w : World) (h : AtM K_X S ab st sv fv ps fr w) :
    Calls Try.prog 88 #[.pointer (some ⟨ab, 0, none⟩)] w fun e w' => e = .returned (.int .i64 (ps.length : Nat)) ∧ w' = w := by
  obtain ⟨c0, c1, -⟩ := h.cells
  have HZ := Lib.hid (iszero_X w h)
  obtain ⟨sa, sc, rfl, -, -⟩ := own_shape h.hsv
  clear h
  go_enter Try.func88, Try.ntmps88
  go_wp2_with (go_at_call 90; refine HZ.out.mono ?_; rintro e w1 ⟨rfl, rfl⟩)
  go_ret
  exact ⟨rfl, rfl⟩
theorem taken_X (w : World) {g cap k : Nat} {p : Option Ck} (h : AtM K_X S ab st (.slice (some ⟨g, 0, none⟩) ps.length cap) fv ps fr w) (hk : ps[k]? = some p) :
    w.cell? ⟨g, k * 3, none⟩ = some (.bool p.isSome) := by
  have := (h.place hk).1 0 (.bool p.isSome) (by cases p <;> rfl)
  exact this
theorem find_yes_X (w : World) {g cap k : Nat} {x : Ck} (h : AtM K_X S ab st (.slice (some ⟨g, 0, none⟩) ps.length cap) fv ps fr w) (hk : ps[k]? = some (some x)) :
    Calls Try.prog 83 #[.pointer (some ⟨ab, 0, none⟩), .int .i64 (k : Nat)] w fun e w' => e = .returned (.tuple #[.pointer (some ⟨g, k * 3, none⟩), .int .i64 0]) ∧ w' = w := by
  obtain ⟨c0, c1, -⟩ := h.cells
  have HP := Lib.hid (cap_X w h)
  have p0 := taken_X w h hk
  have hlt := (List.getElem?_eq_some_iff.1 hk).1
  have g0 : decide ((k : Int) < 0) = false := by rw [decide_eq_false_iff_not]; omega
  have g1 : decide ((ps.length : Int) ≤ (k : Int)) = false := by rw [decide_eq_false_iff_not]; omega
  have k0 : (0 : Int) ≤ (k : Int) := by omega
  have k1 : (k : Int) < (ps.length : Int) := by omega
  clear h hk
  go_enter Try.func83, Try.ntmps83
  go_wp2_with (go_at_call 88; refine HP.out.mono ?_; rintro e w1 ⟨rfl, rfl⟩)
  exact bodyPost_ret (by simp [results, Try.results83, go_sem]) rfl ⟨rfl, rfl⟩
theorem find_no_X (A : ArS Ck) (i : Int) (w : World) (h : AtM K_X S ab st sv fv A.ps fr w) (hh : A.has i = false) :
    Calls Try.prog 83 #[.pointer (some ⟨ab, 0, none⟩), .int .i64 i] w fun e w' => e = .returned (.tuple #[.pointer none, .int .i64 5]) ∧ w' = w := by
  obtain ⟨c0, c1, -⟩ := h.cells
  have HP := Lib.hid (cap_X w h)
  by_cases h0 : i < 0
  · have g0 : decide (i < 0) = true := by rw [decide_eq_true_iff]; exact h0
    clear h hh
    go_enter Try.func83, Try.ntmps83
    go_wp2_with (go_at_call 88; refine HP.out.mono ?_; rintro e w1 ⟨rfl, rfl⟩)
    exact bodyPost_ret (by simp [results, Try.results83, go_sem]) rfl ⟨rfl, rfl⟩
  · have g0 : decide (i < 0) = false := by rw [decide_eq_false_iff_not]; exact h0
    by_cases h1 : (A.ps.length : Int) ≤ i
    · have g1 : decide ((A.ps.length : Int) ≤ i) = true := by rw [decide_eq_true_iff]; exact h1
      clear h hh
      go_enter Try.func83, Try.ntmps83
      go_wp2_with (go_at_call 88; refine HP.out.mono ?_; rintro e w1 ⟨rfl, rfl⟩)
      exact bodyPost_ret (by simp [results, Try.results83, go_sem]) rfl ⟨rfl, rfl⟩
    · have g1 : decide ((A.ps.length : Int) ≤ i) = false := by rw [decide_eq_false_iff_not]; exact h1
      obtain ⟨k, rfl⟩ : ∃ k : Nat, i = k := ⟨i.toNat, by omega⟩
      obtain ⟨g, cap, rfl, -, -⟩ := h.form (by omega)
      have hk : A.ps[k]? = some none := by
        rw [at_get (by omega)]
        rw [has_nat] at hh
        cases e : A.at_ k with
        | none => rfl
        | some x => rw [e] at hh; cases hh
      have p0 := taken_X w h hk
      have p0 : w.cell? ⟨g, k * 3, none⟩ = some (.bool false) := p0
      have k0 : (0 : Int) ≤ (k : Int) := by omega
      have k1 : (k : Int) < (A.ps.length : Int) := by omega
      clear h hh hk
      go_enter Try.func83, Try.ntmps83
      go_wp2_with (go_at_call 88; refine HP.out.mono ?_; rintro e w1 ⟨rfl, rfl⟩)
      exact bodyPost_ret (by simp [results, Try.results83, go_sem]) rfl ⟨rfl, rfl⟩

theorem results_at_X {W : World} {g : Nat} {cs : Array Value} {ty : TypeId} (hcs : cs.size = 2) (h : W.heap[g]? = some (.cells cs ty (0, 0))) (tm : Array Value) (h4 : tm.getD 4 undef = .pointer (some ⟨g, 0, none⟩)) {e : Int} (h5 : tm.getD 5 undef = .int .i64 e) :
    (results Try.f79 tm).run Try.prog W = .ok (.tuple #[.agg cs, .int .i64 e]) W := by
  have r4 := run_loadVar_row (P := Try.prog) W g _ 61 cs _ _ h Try.underlying61 rfl (ainfo_X cs hcs)
  have h4' : tm[4]?.getD undef = .pointer (some ⟨g, 0, none⟩) := by simpa using h4
  have h5' : tm[5]?.getD undef = .int .i64 e := by simpa using h5
  simp [results, Try.results79, h4', h5', asAddr, r4]
theorem at_yes_X (w : World) {g cap k : Nat} {x : Ck} (h : AtM K_X S ab st (.slice (some ⟨g, 0, none⟩) ps.length cap) fv ps fr w) (hk : ps[k]? = some (some x)) :
    Calls Try.prog 79 #[.pointer (some ⟨ab, 0, none⟩), .int .i64 (k : Nat)] w fun e w' => e = .returned (.tuple #[.agg (K_X.c x).toArray, .int .i64 0]) ∧ Below w.heap.size w w' := by
  have hbA := (Below.refl w.heap.size w).alloc (Nat.le_refl _) (.cells K_X.zc.toArray 61)
  have hA := h.below hbA
  have HF := Lib.hid (find_yes_X _ hA hk)
  have HR := Lib.hid (hA.thing hk)
  have HR : Hid ((w.alloc (.cells K_X.zc.toArray 61)).rangeAt g (k * 3 + 1) (K_X.c x)) := HR
  have HZ := Lib.hid (heap_alloc_new w (.cells K_X.zc.toArray 61))
  have HI := Lib.hid (sinfo_X (K_X.c x) (K_X.len x))
  have HS := Lib.hid (csize_X x)
  have HO := Lib.hid (cone_X x)
  have HB := Lib.hid (below_setRow hbA (Nat.le_refl _) (K_X.c x).toArray)
  have HW := Lib.hid (setRow_heap _ _ _ (K_X.c x).toArray _ _ HZ.out)
  clear h hk hbA hA
  go_enter Try.func79, Try.ntmps79
  go_wp2_with (first
    | (refine wpList_alloc_row rfl 61 rfl K_X.zc zinfo_X ?_)
    | (go_at_call 83; refine HF.out.mono ?_; rintro e w1 ⟨rfl, rfl⟩)
    | (refine wpList_load_midw (by rfl) 61 (.tmp 21) rfl g (k * 3 + 1) rfl (K_X.c x) _ HR.out Try.underlying61 rfl HI.out ?_)
    | (refine wpList_store_row rfl 61 (.tmp 4) (.tmp 22) rfl w.heap.size (K_X.c x).toArray rfl rfl _ _ HZ.out (ainfo_X _ HS.out) (by rw [HS.out]; rfl) HO.out ?_))
  exact bodyPost_ret (results_at_X HS.out HW.out _ rfl rfl) rfl ⟨rfl, HB.out⟩
theorem at_no_X (A : ArS Ck) (i : Int) (w : World) (h : AtM K_X S ab st sv fv A.ps fr w) (hh : A.has i = false) :
    Calls Try.prog 79 #[.pointer (some ⟨ab, 0, none⟩), .int .i64 i] w fun e w' => e = .returned (.tuple #[.agg K_X.zc.toArray, .int .i64 5]) ∧ Below w.heap.size w w' := by
  have hbA := (Below.refl w.heap.size w).alloc (Nat.le_refl _) (.cells K_X.zc.toArray 61)
  have hbC := hbA.alloc (by simp) (.cells K_X.zc.toArray 61)
  have hA := h.below hbA
  have HF := Lib.hid (find_no_X A i _ hA hh)
  have HZ := Lib.hid (heap_alloc_new w (.cells K_X.zc.toArray 61))
  have HZ2 := Lib.hid (heap_alloc_new (w.alloc (.cells K_X.zc.toArray 61)) (.cells K_X.zc.toArray 61))
  have HZ3 := Lib.hid ((heap_alloc_old (w.alloc (.cells K_X.zc.toArray 61)) (.cells K_X.zc.toArray 61) (lt_of_heap HZ.out)).trans HZ.out)
  have HS : Hid (K_X.zc.toArray.size = 2) := Lib.hid (by rw [List.size_toArray]; exact K_X.lenZ)
  have HO : Hid (K_X.zc.toArray.all (·.oneCell') = true) := Lib.hid (all_oneCell_toArray K_X.oneZ)
  have HB := Lib.hid (below_setRow hbC (Nat.le_refl _) K_X.zc.toArray)
  have HW := Lib.hid (setRow_heap _ _ _ K_X.zc.toArray _ _ HZ3.out)
  have hsz : (w.alloc (.cells K_X.zc.toArray 61)).heap.size = w.heap.size + 1 := by simp
  rw [hsz] at HZ2
  clear h hh hbA hA hbC hsz
  go_enter Try.func79, Try.ntmps79
  go_wp2_with (first
    | (refine wpList_alloc_row rfl 61 rfl K_X.zc zinfo_X ?_)
    | (go_at_call 83; refine HF.out.mono ?_; rintro e w1 ⟨rfl, rfl⟩)
    | (refine wpList_load_roww 61 (.tmp 8) rfl (w.heap.size + 1) rfl (by rfl) _ _ _ _ HZ2.out Try.underlying61 rfl (ainfo_X _ HS.out) ?_)
    | (refine wpList_store_row rfl 61 (.tmp 4) (.tmp 17) rfl w.heap.size K_X.zc.toArray rfl rfl _ _ HZ3.out (ainfo_X _ HS.out) rfl HO.out ?_))
  exact bodyPost_ret (results_at_X HS.out HW.out _ rfl rfl) rfl ⟨rfl, HB.out⟩
end
end Go.Proofs.Yteodfbkfpboehaa
