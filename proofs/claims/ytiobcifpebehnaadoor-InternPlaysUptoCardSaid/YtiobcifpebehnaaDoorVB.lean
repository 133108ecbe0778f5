
import Derived.Test.YtiobcifpebehnaaDoorVA
import Derived.Test.YtiobcifpebehnaaDoorProg
import Derived.Test.YtiobcifpebehnaaDoorG
import Derived.Shelf.Pu.Clone
import Derived.BigQuiet
import Derived.Lib.SmallJoins
import Derived.ChangeArms
import Derived.ChangeSame
import Derived.ChangeMaps5
import Derived.ShutString
import Derived.SizedLaws
/- Y6 -/
namespace Go.Proofs.YtiobcifpebehnaaDoor
open Go.RowKit
set_option linter.unusedVariables false
set_option maxRecDepth 100000

theorem toList_nil (s : ByteArray) : s.toList = [] ↔ s.size = 0 := by
  have h := empty_iff s
  rw [Bool.eq_iff_iff] at h
  simpa using h
theorem canon_iff (f : Int) : canonI f = f ↔ (nanI f = false ∨ f = 9221120237041090560) := by
  unfold canonI
  split
  · rename_i h; rw [h]; simp; exact eq_comm
  · rename_i h; simp at h; simp [h]
theorem rvmay1 (n f : Int) (s : ByteArray) : vmay 1 n f s = (decide (f = 0 ∧ s.toList = []) && (n == 0 || n == 1)) := by
  unfold vmay; rw [Bool.eq_iff_iff]; simp [toList_nil]; constructor
  · rintro ⟨a, b, c⟩; exact ⟨⟨b, c⟩, a⟩
  · rintro ⟨⟨b, c⟩, a⟩; exact ⟨a, b, c⟩
theorem rvmay3 (n f : Int) (s : ByteArray) : vmay 3 n f s = (decide (n = 0 ∧ s.toList = []) && (!nanI f || f == 9221120237041090560)) := by
  unfold vmay; rw [Bool.eq_iff_iff]; simp [toList_nil, canon_iff]; constructor
  · rintro ⟨a, b, c⟩; exact ⟨⟨a, c⟩, b⟩
  · rintro ⟨⟨a, c⟩, b⟩; exact ⟨a, b, c⟩
theorem rvmay4 (n f : Int) (s : ByteArray) : vmay 4 n f s = (decide (n = 0 ∧ f = 0) && decide (s.size ≤ 64) && (rErr (sbytes s) == 0)) := by
  unfold vmay textB; rw [Bool.eq_iff_iff]; simp; constructor
  · rintro ⟨a, b, c, d⟩; exact ⟨⟨⟨a, b⟩, c⟩, d⟩
  · rintro ⟨⟨⟨a, b⟩, c⟩, d⟩; exact ⟨a, b, c, d⟩

theorem rmay_one (n f : Int) (s : ByteArray) (w : World) :
    Calls Tryd.prog 49 #[val 1 n f s] w fun e w' => e = .returned (.bool (vmay 1 n f s)) ∧ Below w.heap.size w w' := by
  have hq := fun n' f' s' w => val_eql 1 n f 1 n' f' s s' w
  have hB := (Below.refl w.heap.size w).alloc (Nat.le_refl _) (.cells (vcells 1 n f s) 45)
  have HE := Lib.hid (rvmay1 n f s)
  go_enter Tryd.func49, Tryd.ntmps49
  go_wp2
  all_goals
    go_ret
    refine ⟨ret_bool ?_, (Below.refl _ _).alloc (Nat.le_refl _) _⟩
    have he := HE.out
    simp_all

theorem rmay_two (n f : Int) (s : ByteArray) (w : World) :
    Calls Tryd.prog 49 #[val 2 n f s] w fun e w' => e = .returned (.bool (vmay 2 n f s)) ∧ Below w.heap.size w w' := by
  have hq := fun n' f' s' w => val_eql 2 n f 2 n' f' s s' w
  have hB := (Below.refl w.heap.size w).alloc (Nat.le_refl _) (.cells (vcells 2 n f s) 45)
  have HE := Lib.hid (vmay2 n f s)
  go_enter Tryd.func49, Tryd.ntmps49
  go_wp2
  go_ret
  exact ⟨ret_bool (by rw [← HE.out]), hB⟩

theorem rmay_three (n f : Int) (s : ByteArray) (w : World) (h0 : 0 ≤ f) (h1 : f < 18446744073709551616) :
    Calls Tryd.prog 49 #[val 3 n f s] w fun e w' => e = .returned (.bool (vmay 3 n f s)) ∧ Below w.heap.size w w' := by
  have hq := fun n' f' s' w => val_eql 3 n f 3 n' f' s s' w
  have hB := (Below.refl w.heap.size w).alloc (Nat.le_refl _) (.cells (vcells 3 n f s) 45)
  have HE := Lib.hid (rvmay3 n f s)
  have HN := Lib.hid (fun w => none_any f w h0 h1)
  go_enter Tryd.func49, Tryd.ntmps49
  go_wp2_with (go_at_call 57; refine (HN.out _).mono ?_; rintro e w' ⟨rfl, rfl⟩)
  all_goals
    go_ret
    refine ⟨ret_bool ?_, (Below.refl _ _).alloc (Nat.le_refl _) _⟩
    have he := HE.out
    simp_all

theorem rmay_other (k n f : Int) (s : ByteArray) (w : World) (h1 : k ≠ 1) (h2 : k ≠ 2) (h3 : k ≠ 3) (h4 : k ≠ 4) :
    Calls Tryd.prog 49 #[val k n f s] w fun e w' => e = .returned (.bool (vmay k n f s)) ∧ Below w.heap.size w w' := by
  have hB := (Below.refl w.heap.size w).alloc (Nat.le_refl _) (.cells (vcells k n f s) 45)
  have HE := Lib.hid (vmay0 k n f s h1 h2 h3 h4)
  have e1 : (k == 1) = false := by simpa using h1
  have e2 : (k == 2) = false := by simpa using h2
  have e3 : (k == 3) = false := by simpa using h3
  have e4 : (k == 4) = false := by simpa using h4
  go_enter Tryd.func49, Tryd.ntmps49
  go_wp2
  go_ret
  exact ⟨ret_bool (by rw [← HE.out]), hB⟩

theorem rmay_four (n f : Int) (s : ByteArray) (w : World) (hs : s.size ≤ 1048576) :
    Calls Tryd.prog 49 #[val 4 n f s] w fun e w' => e = .returned (.bool (vmay 4 n f s)) ∧ Below w.heap.size w w' := by
  have hq := fun n' f' s' w => val_eql 4 n f 4 n' f' s s' w
  have hB := (Below.refl w.heap.size w).alloc (Nat.le_refl _) (.cells (vcells 4 n f s) 45)
  have hA := At.box 4 n f s w 45
  have HE := Lib.hid (rvmay4 n f s)
  obtain ⟨v, w1, hc, hi, hb⟩ := bytes_of s (w.alloc (.cells (vcells 4 n f s) 45)) hs
  have hA1 := hA.below hb
  have HR := Lib.hid ((rread_any v (sbytes s) w1 hi (sbytes_wf s) (by rw [sbytes_len]; omega)).mono fun e w' h => read_out h)
  clear hi hA hs
  obtain ⟨x, hx⟩ : ∃ x, rErr (sbytes s) = x := ⟨_, rfl⟩
  rw [hx] at HE
  have HX := Lib.hid hx
  clear hx
  go_enter Tryd.func49, Tryd.ntmps49
  go_wp2_with (go_at_call 58; refine HR.out.mono ?_; rintro e w2 ⟨hb2, v2, rfl, _⟩; rw [HX.out]; have hA2 := hA1.below hb2)
  all_goals
    go_ret
    refine ⟨ret_bool ?_, hB.trans ((hb.trans (hb2.mono hb.size)).mono (by simp))⟩
    have he := HE.out
    clear HE HX HR hA1 hA2 hb hb2 hB hc hq
    simp_all
    try omega

theorem rvmay_any (k n f : Int) (s : ByteArray) (w : World) (h0 : 0 ≤ f) (h1 : f < 18446744073709551616) (hs : s.size ≤ 1048576) :
    Calls Tryd.prog 49 #[val k n f s] w fun e w' => e = .returned (.bool (vmay k n f s)) ∧ Below w.heap.size w w' := by
  by_cases e1 : k = 1
  · subst e1; exact rmay_one n f s w
  · by_cases e2 : k = 2
    · subst e2; exact rmay_two n f s w
    · by_cases e3 : k = 3
      · subst e3; exact rmay_three n f s w h0 h1
      · by_cases e4 : k = 4
        · subst e4; exact rmay_four n f s w hs
        · exact rmay_other k n f s w e1 e2 e3 e4
end Go.Proofs.YtiobcifpebehnaaDoor

/- YC -/
namespace Go.Proofs.YtiobcifpebehnaaDoor
open Go.RowKit Go.Shelf
set_option linter.unusedVariables false
set_option maxRecDepth 100000

def cloneRen : Go.Shelf.Ren := ⟨fun | 25 => 56 | n => n, fun | 0 => 0 | 3 => 3 | 4 => 4 | 5 => 5 | 9 => 9 | 37 => 71 | 47 => 121 | n => n, fun n => n⟩
theorem cloneLays : LaysPu.n25 Tryd.prog cloneRen := {
  mixed := by kernel_rfl
  f25 := Tryd.func56.trans (congrArg some (by kernel_rfl))
  t0 := Tryd.underlying0
  a0 := Tryd.isAgg0
  z0 := Tryd.sizeOf0
  v0 := Tryd.zeroValue0
  i0 := by kernel_rfl
  t3 := Tryd.underlying3
  a3 := Tryd.isAgg3
  z3 := Tryd.sizeOf3
  v3 := Tryd.zeroValue3
  i3 := by kernel_rfl
  t4 := Tryd.underlying4
  a4 := Tryd.isAgg4
  z4 := Tryd.sizeOf4
  v4 := Tryd.zeroValue4
  i4 := by kernel_rfl
  t5 := Tryd.underlying5
  a5 := Tryd.isAgg5
  z5 := Tryd.sizeOf5
  v5 := Tryd.zeroValue5
  i5 := by kernel_rfl
  t9 := Tryd.underlying9
  a9 := Tryd.isAgg9
  z9 := Tryd.sizeOf9
  v9 := Tryd.zeroValue9
  i9 := by kernel_rfl
  t37 := Tryd.underlying71
  a37 := Tryd.isAgg71
  z37 := Tryd.sizeOf71
  v37 := Tryd.zeroValue71
  i37 := by kernel_rfl
  t47 := Tryd.underlying121
  a47 := Tryd.isAgg121
  z47 := Tryd.sizeOf121
  v47 := Tryd.zeroValue121
  i47 := by kernel_rfl }
theorem liteClone_any (s : ByteArray) (w : World) (hs : s.size ≤ 281474976710656) :
    Calls Tryd.prog 56 #[.string s] w fun e w' => e = .returned (.string s) ∧ Below w.heap.size w w' := AnyPu.stringslite_Clone cloneLays s w hs
theorem clone_any (s : ByteArray) (w : World) (hs : s.size ≤ 281474976710656) :
    Calls Tryd.prog 47 #[.string s] w fun e w' => e = .returned (.string s) ∧ Below w.heap.size w w' := by
  have HS := Lib.hid (fun w => liteClone_any s w hs)
  clear hs
  go_enter Tryd.func47, Tryd.ntmps47
  go_wp2_with (go_at_call 56; refine (HS.out _).mono ?_; rintro e w' ⟨rfl, hb⟩)
  go_ret
  exact ⟨rfl, hb⟩

/-- What Text answers. -/
def textV (s : ByteArray) : Value := if textB s then val 4 0 0 s else val 0 0 0 ⟨#[]⟩
def textE (s : ByteArray) : Int := if textB s then 0 else 3
end Go.Proofs.YtiobcifpebehnaaDoor

/- Y7 -/
namespace Go.Proofs.YtiobcifpebehnaaDoor
open Go.RowKit
set_option linter.unusedVariables false
set_option maxRecDepth 100000

/-- The bits of a value's number; 0, where it is none. -/
def numF (k n f : Int) (s : ByteArray) : Nat := if vmay k n f s then (if k = 2 then floatOfInt .f64 n else if k = 3 then f.toNat else 0) else 0
def numOk (k n f : Int) (s : ByteArray) : Bool := vmay k n f s && (k == 2 || k == 3)

end Go.Proofs.YtiobcifpebehnaaDoor

/- Y8 -/
namespace Go.Proofs.YtiobcifpebehnaaDoor
open Go.RowKit
set_option linter.unusedVariables false
set_option maxRecDepth 100000

/-- Which of two values that may be stands ahead. -/
def kless (k n f : Int) (s : ByteArray) (k' n' f' : Int) (s' : ByteArray) : Bool :=
  if k ≠ k' then decide (k < k') else if k = 3 then decide (rankI f < rankI f') else if k = 4 then Op.bytesLess s.toList s'.toList else decide (n < n')
def vless (k n f : Int) (s : ByteArray) (k' n' f' : Int) (s' : ByteArray) : Bool := vmay k n f s && vmay k' n' f' s' && kless k n f s k' n' f' s'

theorem vmay_okF {n f : Int} {s : ByteArray} (h : vmay 3 n f s = true) (h0 : 0 ≤ f) (h1 : f < 18446744073709551616) : okF f := by
  rw [rvmay3] at h
  simp at h
  exact ⟨h0, h1, h.2⟩
theorem rank_dec (n f n' f' : Int) (s s' : ByteArray) (h0 : 0 ≤ f) (h1 : f < 18446744073709551616) (g0 : 0 ≤ f') (g1 : f' < 18446744073709551616)
    (hm : vmay 3 n f s = true) (hm' : vmay 3 n' f' s' = true) : decide (rrankI f < rrankI f') = decide (rankI f < rankI f') := by
  rw [Bool.eq_iff_iff, decide_eq_true_iff, decide_eq_true_iff]
  exact (rank_same f f' (vmay_okF hm h0 h1) (vmay_okF hm' g0 g1)).symm
theorem kl_ne {k n f : Int} {s : ByteArray} {k' n' f' : Int} {s' : ByteArray} (h : k ≠ k') : decide (k < k') = kless k n f s k' n' f' s' := by unfold kless; rw [if_pos h]
theorem kl_3 {n f : Int} {s : ByteArray} {n' f' : Int} {s' : ByteArray} : decide (rankI f < rankI f') = kless 3 n f s 3 n' f' s' := by unfold kless; simp
theorem kl_4 {n f : Int} {s : ByteArray} {n' f' : Int} {s' : ByteArray} : Op.bytesLess s.toList s'.toList = kless 4 n f s 4 n' f' s' := by unfold kless; simp
theorem kl_n {k n f : Int} {s : ByteArray} {n' f' : Int} {s' : ByteArray} (h3 : k ≠ 3) (h4 : k ≠ 4) : decide (n < n') = kless k n f s k n' f' s' := by unfold kless; simp [h3, h4]
theorem vl_tt {k n f : Int} {s : ByteArray} {k' n' f' : Int} {s' : ByteArray} (h : vmay k n f s = true) (h' : vmay k' n' f' s' = true) : vless k n f s k' n' f' s' = kless k n f s k' n' f' s' := by unfold vless; rw [h, h']; rfl
theorem vl_f {k n f : Int} {s : ByteArray} {k' n' f' : Int} {s' : ByteArray} (h : vmay k n f s = false) : vless k n f s k' n' f' s' = false := by unfold vless; rw [h]; rfl
theorem vl_tf {k n f : Int} {s : ByteArray} {k' n' f' : Int} {s' : ByteArray} (h : vmay k n f s = true) (h' : vmay k' n' f' s' = false) : vless k n f s k' n' f' s' = false := by unfold vless; rw [h, h']; rfl
theorem at_two (k n f : Int) (s : ByteArray) (k' n' f' : Int) (s' : ByteArray) (w : World) (t : TypeId) :
    At w.heap.size k n f s ((w.alloc (.cells (vcells k n f s) t)).alloc (.cells (vcells k' n' f' s') t)) ∧ At (w.heap.size + 1) k' n' f' s' ((w.alloc (.cells (vcells k n f s) t)).alloc (.cells (vcells k' n' f' s') t)) := by
  refine ⟨(At.box k n f s w t).below ((Below.refl _ _).alloc (Nat.le_refl _) _), ?_⟩
  have h := At.box k' n' f' s' (w.alloc (.cells (vcells k n f s) t)) t
  simpa using h
theorem below_two (w : World) (o1 o2 : Obj) : Below w.heap.size w ((w.alloc o1).alloc o2) := ((Below.refl _ _).alloc (Nat.le_refl _) _).alloc (by simp) _

end Go.Proofs.YtiobcifpebehnaaDoor

/- Y9 -/
namespace Go.Proofs.YtiobcifpebehnaaDoor
open Go.RowKit
set_option linter.unusedVariables false
set_option maxRecDepth 100000

end Go.Proofs.YtiobcifpebehnaaDoor

/- YV -/
namespace Go.Proofs.YtiobcifpebehnaaDoor
open Go.RowKit Go.ChangeShapes Go.WideShapes Go.Deep
set_option linter.unusedVariables false
set_option maxRecDepth 100000

section
variable {H : Type} {enc : TypeId × Value → H} {w : World} {base : Nat} {spare : Nat → Bool} {held : Bool}
/-- A value as data. -/
def valD (k n f : Int) (s : ByteArray) : DataW H := .agg [.lit (.int .u8 k), .lit (.int .i64 n), .lit (.int .u64 f), .lit (.string s.data.toList)]
theorem val_one : oneCellFields Tryd.prog (Tryd.prog.fieldsOf 45) = true := by kernel_rfl
theorem val_cells : Tryd.prog.cellsOf 45 = 4 := by kernel_rfl
/-- What a value's fields are within. -/
structure ValW (k n f : Int) (s : ByteArray) : Prop where
  k : (Lit.int .u8 k).wf = true
  n : (Lit.int .i64 n).wf = true
  f : (Lit.int .u64 f).wf = true
  s : s.size ≤ maxLen
theorem open_val {r : Reach} {b0 : Nat} {v : Value} {d : DataW H} {p : List MemPlace} (hv : Value.okWide Tryd.prog w r b0 45 v) (h : DataW.Trod enc Tryd.prog w base spare held 45 v d p) :
    ∃ k n f s, v = val k n f s ∧ d = valD k n f s ∧ p = [] ∧ ValW k n f s := by
  obtain ⟨v0, v1, v2, v3, y0, y1, y2, y3, m, rfl, rfl, rfl, h0, h1, h2, h3⟩ := Go.Joins.open_agg4 Tryd.underlying45 (by kernel_rfl) val_cells hv h
  obtain ⟨k, e0, rfl, w0⟩ := DataW.trod_int Tryd.underlying5 h0
  obtain ⟨n, e1, rfl, w1⟩ := DataW.trod_int Tryd.underlying2 h1
  obtain ⟨f, e2, rfl, w2⟩ := DataW.trod_int Tryd.underlying43 h2
  obtain ⟨s, e3, rfl, w3⟩ := DataW.trod_string Tryd.underlying9 h3
  simp only [List.cons.injEq, and_true] at e0 e1 e2 e3
  subst e0 e1 e2 e3
  exact ⟨k, n, f, s, rfl, rfl, rfl, w0, w1, w2, w3⟩
theorem shut_val {k n f : Int} {s : ByteArray} (hw : ValW k n f s) : DataW.Trod enc Tryd.prog w base spare held 45 (val k n f s) (valD k n f s) [] := by
  have h := Go.Joins.shut_agg4 (P := Tryd.prog) (enc := enc) (w := w) (base := base) (spare := spare) (held := held) (v0 := .int .u8 k) (v1 := .int .i64 n) (v2 := .int .u64 f) (v3 := .string s) (y0 := (.lit (.int .u8 k), [])) (y1 := (.lit (.int .i64 n), [])) (y2 := (.lit (.int .u64 f), [])) (y3 := (.lit (.string s.data.toList), [])) Tryd.underlying45 (by kernel_rfl) val_cells
    ⟨1, trod_int_mk 0 Tryd.underlying5 hw.k⟩ ⟨1, trod_int_mk 0 Tryd.underlying2 hw.n⟩ ⟨1, trod_int_mk 0 Tryd.underlying43 hw.f⟩ (by simpa [DataW.Trod, Value.cells] using Go.ChangeMaps.shut_string (enc := enc) (w := w) (base := base) (sp := spare) (held := held) Tryd.underlying9 hw.s)
  exact h
/-- No argument's text takes more than a process's addresses. -/
theorem sized_val {ts : List TypeId} {ds : List (DataW H)} (h : (DataW.weightsEach Tryd.prog ts ds).all (· ≤ reachBytes) = true) {j : Nat} {k n f : Int} {s : ByteArray} (ht : ts[j]? = some 45) (hd : ds[j]? = some (valD k n f s)) : s.size ≤ 140737488355328 := by
  have h1 := List.all_eq_true.1 h _ (DataW.weights_mem_each ht hd s.data.toList.length (by simp [valD, DataW.weights, DataW.weightsEach, Tryd.underlying45]))
  have h2 := reachBytes_lt
  simp at h1
  omega
theorem sized_str {ts : List TypeId} {ds : List (DataW H)} (h : (DataW.weightsEach Tryd.prog ts ds).all (· ≤ reachBytes) = true) {j : Nat} {t : TypeId} {s : ByteArray} (ht : ts[j]? = some t) (hd : ds[j]? = some (.lit (.string s.data.toList))) : s.size ≤ 140737488355328 := by
  have h1 := sized_string h ht hd
  have h2 := reachBytes_lt
  simp at h1
  omega
end
end Go.Proofs.YtiobcifpebehnaaDoor
