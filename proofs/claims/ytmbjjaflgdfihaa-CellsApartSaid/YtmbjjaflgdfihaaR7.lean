
import Derived.Test.YtmbjjaflgdfihaaR3
/- R7: cells.Blank, cells.Text; the bound that the laws of cells ask -/
namespace Go.Proofs.Ytmbjjaflgdfihaa
open Go.RowKit
set_option linter.unusedVariables false
set_option maxRecDepth 100000

def blankZ : Cz := ⟨10, none, 0, []⟩
theorem blank_any (w : World) : Calls Try.prog 13 #[] w fun e w' => e = .returned (.slice (some ⟨w.heap.size, 0, none⟩) 1 1) ∧ Drow w' (.slice (some ⟨w.heap.size, 0, none⟩) 1 1) [blankZ] ∧ Below w.heap.size w w' := by
  have HD := Lib.hid (drow_one w blankZ 41 (Row.nil _))
  have HB := Lib.hid (kbelow_one w (.cells (Cz.cs blankZ) 41))
  obtain ⟨i0, hi, hz0, hz1, hz2⟩ := info_cell
  go_enter Try.func13, Try.ntmps13
  go_wp2
  go_ret
  exact ⟨rfl, HD.out, HB.out⟩

structure TxR (w : World) (zs : List Cz) (k : Nat) (v : Value) (wr : World) : Prop where
  own : wr.ownsRow w.heap.size 21 1 v k ((zs.take k).map fun z => Value.int .i32 z.r)
  b : Below w.heap.size w wr
theorem txt_snoc {zs : List Cz} {k : Nat} (h : k < zs.length) : ((zs.take (k + 1)).map fun z => Value.int .i32 z.r) = ((zs.take k).map fun z => Value.int .i32 z.r) ++ [.int .i32 zs[k].r] := by rw [tsnoc h, List.map_append]; rfl
def runesZ (zs : List Cz) : List Int := zs.map Cz.r
set_option maxHeartbeats 2000000 in
theorem ctext_any (u : Value) (zs : List Cz) (w : World) (hu : Drow w u zs) (hl : zs.length ≤ 1000000000) :
    Calls Try.prog 12 #[u] w fun e w' => ∃ v, e = .returned v ∧ w'.ownsRow w.heap.size 21 1 v zs.length ((runesZ zs).map (Value.int .i32)) ∧ Below w.heap.size w w' := by
  obtain ⟨i0, hi, hz0, hz1, hz2⟩ := info_i32
  obtain ⟨a1, cap1, rfl⟩ := hu.shape
  have hend : ((zs.take zs.length).map fun z => Value.int .i32 z.r) = (runesZ zs).map (Value.int .i32) := by rw [List.take_of_length_le (Nat.le_refl _), runesZ, List.map_map]; rfl
  have HEN := Lib.hid hend
  clear hend
  by_cases h0 : 0 < zs.length
  · obtain ⟨b1, o1, rfl, -, -, -, hbl, hat⟩ := hu.ats h0
    have HA := Lib.hid hat
    clear hat hu
    go_enter Try.func12, Try.ntmps12
    go_wp2_with (at_make; refine wpList_make_own _ rfl _ _ 36 rfl w.heap.size 21 i0 (.int .i32 0) 1 Try.underlying36 hi hz0 hz1 _ _ _ zs.length rfl rfl (by omega) (by rw [hz2]; omega) (by unfold maxLen; omega) (Nat.le_refl _) ?_; intro w0 hown0 hgrow0)
    have HR0 := Lib.hid (TxR.mk (w := w) (zs := zs) (k := 0) (by simpa using hown0) ((Below.refl _ _).grown hgrow0 (Nat.le_refl _) (fun k hk => by cases hk)))
    clear hown0 hgrow0
    go_loopw [3, 11] (fun s3 s11 wr => ∃ k : Nat, k ≤ zs.length ∧ s11 = .int .i64 k ∧ Hid (TxR w zs k s3 wr)) (fun _ s11 _ => zs.length - (intOf s11).toNat)
    case atStart => exact ⟨0, Nat.zero_le _, rfl, HR0⟩
    case round =>
      obtain ⟨k, hk, rfl, HP⟩ := hrel
      by_cases hlt : k < zs.length
      · have HB := Lib.hid HP.out.b
        obtain ⟨c0, c1⟩ := (HA.out k hlt).below HB.out
        have HO := Lib.hid HP.out.own
        have HLT := Lib.hid hlt
        have HSN := Lib.hid (txt_snoc hlt)
        have hwr := HB.out.size
        have hk1 := kbelow_one wr (.cells zs[k].cs 41)
        have HBX := Lib.hid (below_add hk1 (kbelow_one _ (.cells #[.int .i32 zs[k].r] 21)) hk1.size)
        clear HP hk1
        generalize zs[k] = z at *
        obtain ⟨zr, za, zc, zz⟩ := z
        simp only [Cz.cs, clcs] at *
        go_wp2_with (at_builtin; go_loud (refine wpList_append_own _ rfl _ _ 36 rfl w.heap.size 21 i0 (.int .i32 0) 1 4 Try.underlying36 hi hz0 hz1 hz2 rfl (by decide) _ _ _ rfl ((HO.out.alloc _).alloc _) ⟨wr.heap.size + 1, 0, none⟩ 1 1 [.int .i32 zr] rfl rfl (by simpa using cell_new (wr.alloc _) _ _) (by intro u hu; simp at hu; subst hu; rfl) (by unfold maxLen; omega) (by omega) (by simp; omega) ?_); intro v' w1 hown1 hgrow1 _; have HN := Lib.hid (TxR.mk (w := w) (zs := zs) (k := k + 1) (by rw [HSN.out]; exact hown1) ((below_add HB.out HBX.out HB.out.size).grown hgrow1 (by simp; omega) (fun g hg => own_base HO.out hg))); clear hown1 hgrow1)
        go_roundw
        case rel => exact ⟨k + 1, HLT.out, by go_num, HN⟩
        case measure => have := HLT.out; simp [intOf]; omega
      · obtain rfl : k = zs.length := by omega
        have HE := Lib.hid HP.out
        clear HP
        go_wp2
        go_ret
        exact ⟨_, rfl, by rw [← HEN.out]; exact HE.out.own, HE.out.b⟩
  · obtain rfl : zs = [] := List.length_eq_zero_iff.1 (by omega)
    clear hu hl
    go_enter Try.func12, Try.ntmps12
    go_wp2_with (at_make; refine wpList_make_own _ rfl _ _ 36 rfl w.heap.size 21 i0 (.int .i32 0) 1 Try.underlying36 hi hz0 hz1 _ _ _ 0 rfl rfl (by omega) (by rw [hz2]; omega) (by unfold maxLen; omega) (Nat.le_refl _) ?_; intro w0 hown0 hgrow0)
    have HR0 := Lib.hid (TxR.mk (w := w) (zs := []) (k := 0) (by simpa using hown0) ((Below.refl _ _).grown hgrow0 (Nat.le_refl _) (fun k hk => by cases hk)))
    clear hown0 hgrow0
    refine wp_loop_rounds 1 ?_
    rw [rounds_succ]
    go_wp2
    go_ret
    exact ⟨_, rfl, HR0.out.own, HR0.out.b⟩
end Go.Proofs.Ytmbjjaflgdfihaa
