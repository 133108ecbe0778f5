
import Derived.Test.YtnggnfhaokkcmaaN21
/- N22: known -/
namespace Go.Proofs.Ytnggnfhaokkcmaa
open Go.RowKit
set_option linter.unusedVariables false
set_option maxRecDepth 100000

theorem orow_lits (W : World) (zs : List Oz) (t : TypeId) (hl : zs.length ≤ maxLen) (h : ∀ z ∈ zs, OpOk W z) : Orow (W.alloc (.cells (fl ozC zs).toArray t)) (.slice (some ⟨W.heap.size, 0, none⟩) zs.length zs.length) zs :=
  ⟨Row.built (C := ozC) W t zs hl, fun z hz => (h z hz).below (kbelow_one W _)⟩
@[reducible] def zI (a : Option Addr) (xs : List Int) : Oz := ⟨2, 0, a, xs.length, xs, none, 0, [], none, 0, []⟩
@[reducible] def zD (n : Int) : Oz := ⟨3, n, none, 0, [], none, 0, [], none, 0, []⟩
@[reducible] def zR (n : Int) : Oz := ⟨1, n, none, 0, [], none, 0, [], none, 0, []⟩
theorem okI {W : World} {a : Option Addr} {xs : List Int} (h : Ints .i32 W (.slice a xs.length xs.length) xs) : OpOk W (zI a xs) := ⟨h, Row.nil W, Row.nil W⟩
theorem okD (W : World) (n : Int) : OpOk W (zD n) := ⟨ints_nil _ W, Row.nil W, Row.nil W⟩
theorem okR (W : World) (n : Int) : OpOk W (zR n) := ⟨ints_nil _ W, Row.nil W, Row.nil W⟩
def kO : List Opn := [⟨3, 2, [], [], []⟩, ⟨2, 0, [97], [], []⟩, ⟨2, 0, [98], [], []⟩, ⟨1, 4, [], [], []⟩]
def kF : List Opn := [⟨2, 0, [97, 98], [], []⟩, ⟨3, 2, [], [], []⟩]
theorem k_form : formO kO = kF := by decide +kernel
theorem k_tm : ∀ o ∈ kO, Tm o := by
  intro o ho
  simp only [kO, List.mem_cons, List.not_mem_nil, or_false] at ho
  rcases ho with rfl | rfl | rfl | rfl
  all_goals exact ⟨fun _ => by simp_all, fun _ => by simp_all, fun _ => by simp_all, by decide, by decide⟩
theorem k_norm : normal kF := by rw [← k_form]; exact form_normal k_tm
theorem k_in (b1 b2 : Option Addr) : In [zD 2, zI b1 [97], zI b2 [98], zR 4] := by
  refine ⟨?_, ?_, by simp, ?_⟩
  · intro x hx
    simp only [List.mem_cons, List.not_mem_nil, or_false] at hx
    rcases hx with rfl | rfl | rfl | rfl <;> exact ⟨by simp, by simp, by simp⟩
  · intro x hx
    simp only [List.mem_cons, List.not_mem_nil, or_false] at hx
    rcases hx with rfl | rfl | rfl | rfl <;> simp
  · simp [sumR, Oz.o]
def KOf (w : World) (e : Ending) (w' : World) : Prop := ∃ a c ys, e = .returned (.slice a 2 c) ∧ ys.map Oz.o = kF ∧ Orow w' (.slice a 2 c) ys ∧ Below w.heap.size w w'
theorem k_of (w : World) (t : TypeId) : Calls Try.prog 10 #[.slice (some ⟨w.heap.size + 1 + 1, 0, none⟩) 4 4] (((w.alloc (.cells #[.int .i32 97] t)).alloc (.cells #[.int .i32 98] t)).alloc (.cells (fl ozC [zD 2, zI (some ⟨w.heap.size, 0, none⟩) [97], zI (some ⟨w.heap.size + 1, 0, none⟩) [98], zR 4]).toArray 34)) fun e w' => KOf w e w' := by
  have b1 := kbelow_one w (.cells #[.int .i32 97] t)
  have r1 := ints_single .i32 w t 97
  have r2 := ints_single .i32 (w.alloc (.cells #[.int .i32 97] t)) t 98
  have hz : (w.alloc (.cells #[.int .i32 97] t)).heap.size = w.heap.size + 1 := by simp
  have b2 := kbelow_one (w.alloc (.cells #[.int .i32 97] t)) (.cells #[.int .i32 98] t)
  have r1' := r1.below b2
  have hz2 : ((w.alloc (.cells #[.int .i32 97] t)).alloc (.cells #[.int .i32 98] t)).heap.size = w.heap.size + 1 + 1 := by simp
  rw [hz] at r2
  have B2 := below_add b1 b2 b1.size
  generalize (w.alloc (.cells #[.int .i32 97] t)).alloc (.cells #[.int .i32 98] t) = w2 at *
  have hr := orow_lits w2 [zD 2, zI (some ⟨w.heap.size, 0, none⟩) [97], zI (some ⟨w.heap.size + 1, 0, none⟩) [98], zR 4] 34 (by simp [maxLen]) (by
    intro z hz
    simp only [List.mem_cons, List.not_mem_nil, or_false] at hz
    rcases hz with rfl | rfl | rfl | rfl
    · exact okD _ _
    · exact okI r1'
    · exact okI r2
    · exact okR _ _)
  rw [hz2] at hr
  have b3 := kbelow_one w2 (.cells (fl ozC [zD 2, zI (some ⟨w.heap.size, 0, none⟩) [97], zI (some ⟨w.heap.size + 1, 0, none⟩) [98], zR 4]).toArray 34)
  refine (of_any _ _ _ hr (k_in _ _)).mono fun e w' ⟨v, ys, he, hy, ho, hb⟩ => ?_
  have hy2 : ys.map Oz.o = kF := hy.trans k_form
  have hl : ys.length = 2 := by have := congrArg List.length hy2; simpa [kF] using this
  obtain ⟨a, c, rfl, -, -⟩ := ho.shape
  rw [hl] at he ho
  have B3 := below_add B2 b3 B2.size
  exact ⟨a, c, ys, he, hy2, ho.orow, below_add B3 hb B3.size⟩
theorem k_same (w0 w : World) (a : Option Addr) (c : Nat) (ys : List Oz) (t : TypeId) (hy : ys.map Oz.o = kF) (ho : Orow w (.slice a 2 c) ys) : Calls Try.prog 22 #[.slice a 2 c, .slice (some ⟨w.heap.size + 1, 0, none⟩) 2 2] ((w.alloc (.cells #[.int .i32 97, .int .i32 98] t)).alloc (.cells (fl ozC [zI (some ⟨w.heap.size, 0, none⟩) [97, 98], zD 2]).toArray 34)) fun e w' => e = .returned (.bool true) ∧ Below w.heap.size w w' := by
  have b1 := kbelow_one w (.cells #[.int .i32 97, .int .i32 98] t)
  have r1 := ints_built .i32 w t [97, 98] (by simp [maxLen])
  have hz : (w.alloc (.cells #[.int .i32 97, .int .i32 98] t)).heap.size = w.heap.size + 1 := by simp
  have r1 : Ints .i32 (w.alloc (.cells #[.int .i32 97, .int .i32 98] t)) (.slice (some ⟨w.heap.size, 0, none⟩) 2 2) [97, 98] := r1
  generalize w.alloc (.cells #[.int .i32 97, .int .i32 98] t) = w2 at *
  have hr := orow_lits w2 [zI (some ⟨w.heap.size, 0, none⟩) [97, 98], zD 2] 34 (by simp [maxLen]) (by
    intro z hz
    simp only [List.mem_cons, List.not_mem_nil, or_false] at hz
    rcases hz with rfl | rfl
    · exact okI r1
    · exact okD _ _)
  rw [hz] at hr
  have b3 := kbelow_one w2 (.cells (fl ozC [zI (some ⟨w.heap.size, 0, none⟩) [97, 98], zD 2]).toArray 34)
  have B3 := below_add b1 b3 b1.size
  refine (osame_any _ _ ys _ _ (ho.below B3) hr).mono fun e w' ⟨he, hb⟩ => ⟨?_, below_add B3 hb B3.size⟩
  rw [he, hy]
  rfl
theorem k_is (w : World) (v : Value) (ys : List Oz) (hy : ys.map Oz.o = kF) (ho : Orow w v ys) : Calls Try.prog 12 #[v] w fun e w' => e = .returned (.bool true) ∧ Below w.heap.size w w' := by
  refine (is_any v ys w ho).mono fun e w' ⟨⟨b, he, hb⟩, hB⟩ => ⟨?_, hB⟩
  rw [hy] at hb
  rw [he, hb.2 k_norm]
set_option maxHeartbeats 4000000 in
theorem known16_any (w : World) : Calls Try.prog 13 #[] w fun e w' => e = .returned (.bool true) ∧ Below w.heap.size w w' := by
  have HO := Lib.hid (k_of w 21)
  go_enter Try.func13, Try.ntmps13
  go_wp2_with fail
  refine HO.out.mono ?_
  rintro e w1 ⟨a, c, ys, rfl, hy, ho, hb⟩
  have HB := Lib.hid hb
  have HS := Lib.hid (k_same w w1 a c ys 21 hy ho)
  have HI := Lib.hid (fun W (hb : Below w1.heap.size w1 W) => k_is W (.slice a 2 c) ys hy (ho.below hb))
  clear hy ho hb
  go_wp2_with (first
    | (go_at_call 22; refine HS.out.mono ?_; rintro e w2 ⟨rfl, h⟩; have HB2 := Lib.hid h; clear h)
    | (go_at_call 12; (with_reducible refine (HI.out _ HB2.out).mono ?_); rintro e w3 ⟨rfl, h⟩; have HB3 := Lib.hid h; clear h))
  go_ret
  have h2 := below_add HB.out HB2.out HB.out.size
  exact ⟨rfl, below_add h2 HB3.out h2.size⟩
end Go.Proofs.Ytnggnfhaokkcmaa
