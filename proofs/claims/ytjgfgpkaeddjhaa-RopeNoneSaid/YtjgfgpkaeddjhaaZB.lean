
import Derived.Test.YtjgfgpkaeddjhaaZA
/- ZB: RopeNone -/
namespace Go.Proofs.Ytjgfgpkaeddjhaa
open Go.RowKit
set_option linter.unusedVariables false
set_option maxRecDepth 100000
/-- A call by value, as it comes in. -/
def opA (o : OpV) : Value := .agg (opC.c o).toArray
def opO (o : OpV) : Obj := .cells #[.int .i64 o.k, .int .i64 o.i, .int .i64 o.j, .int .i64 o.n, .slice o.a o.l o.c] 24
def zeroO : Obj := .cells #[.pointer none] 29
theorem rv_zero (w : World) (o : Obj) : RV (w.heap.size + 1) (w.heap.size + 1) [] ((w.alloc o).alloc zeroO) := by
  have h : Cb (w.alloc o).heap.size 29 #[.pointer none] ((w.alloc o).alloc zeroO) := cb_new _ _ _
  rw [World.size_alloc] at h
  refine ⟨fun k => k = w.heap.size + 1, .inl ⟨rfl, h, rfl⟩, fun k hk => ?_⟩
  rw [World.size_alloc, World.size_alloc]
  omega
theorem none_cells (o : OpV) (w w' : World) (h : Below (w.heap.size + 1) ((w.alloc (opO o)).alloc zeroO) w') :
    w'.cell? ⟨w.heap.size, 1, none⟩ = some (.int .i64 o.i) ∧ w'.cell? ⟨w.heap.size, 2, none⟩ = some (.int .i64 o.j) ∧ w'.cell? ⟨w.heap.size, 4, none⟩ = some (.slice o.a o.l o.c) := by
  have hc : Cb w.heap.size 24 #[.int .i64 o.k, .int .i64 o.i, .int .i64 o.j, .int .i64 o.n, .slice o.a o.l o.c] ((w.alloc (opO o)).alloc zeroO) := (cb_new w _ _).alloc _
  have hc' : Cb w.heap.size 24 #[.int .i64 o.k, .int .i64 o.i, .int .i64 o.j, .int .i64 o.n, .slice o.a o.l o.c] w' := (h.block _ (by omega)).trans hc
  exact ⟨by rw [hc'.cell]; rfl, by rw [hc'.cell]; rfl, by rw [hc'.cell]; rfl⟩
set_option maxHeartbeats 2000000 in
theorem none_long (o : OpV) (m : List Int) (w : World) (hm : Ints .i32 w o.s m) (hl : ¬ m.length ≤ 100) :
    Calls Try.prog 3 #[opA o] w fun e w' => e = .returned (.bool true) ∧ Below w.heap.size w w' := by
  obtain ⟨k, i, j, n, a, l, c⟩ := o
  obtain ⟨a', c', hs⟩ := hm.shape
  have hlen := hm.len
  simp only [OpV.s, Value.slice.injEq] at hs
  obtain ⟨rfl, rfl, rfl⟩ := hs
  clear hm
  have g0 : decide ((100 : Int) < (m.length : Int)) = true := decide_eq_true (by omega)
  have HC := Lib.hid (cb_new w 24 #[.int .i64 k, .int .i64 i, .int .i64 j, .int .i64 n, .slice a m.length c])
  have cx := HC.out.cell 4
  have B1 := Lib.hid (below_alloc1 w (opO ⟨k, i, j, n, a, m.length, c⟩))
  change Calls _ _ #[.agg #[.int .i64 k, .int .i64 i, .int .i64 j, .int .i64 n, .slice a m.length c]] _ _
  go_enter Try.func3, Try.ntmps3
  go_wp2_with (go_at_call 9; refine (known10_any _).mono ?_; rintro e w2 ⟨rfl, bb⟩; have B99 := Lib.hid (below_add B1.out bb B1.out.size); clear bb)
  go_ret
  exact ⟨rfl, B99.out⟩
set_option maxHeartbeats 4000000 in
theorem none_main (o : OpV) (m : List Int) (w : World) (hm : Ints .i32 w o.s m) (hl : m.length ≤ 100) :
    Calls Try.prog 3 #[opA o] w fun e w' => e = .returned (.bool true) ∧ Below w.heap.size w w' := by
  have HC := Lib.hid (none_cells o w)
  have R2 := Lib.hid (rv_zero w (opO o))
  have B2 := Lib.hid (Below.refl (w.heap.size + 1) ((w.alloc (opO o)).alloc zeroO))
  have BW := Lib.hid ((below_alloc1 w (opO o)).alloc (below_alloc1 w (opO o)).size zeroO)
  have VM := Lib.hid (show ∀ w', Below (w.heap.size + 1) ((w.alloc (opO o)).alloc zeroO) w' → Ints .i32 w' o.s m from fun w' h => hm.below (BW.out.trans (h.mono (Nat.le_succ _))))
  have HL := Lib.hid hl
  obtain ⟨k, i, j, n, a, l, c⟩ := o
  obtain ⟨a', c', hs⟩ := hm.shape
  have hlen := hm.len
  simp only [OpV.s, Value.slice.injEq] at hs
  obtain ⟨rfl, rfl, rfl⟩ := hs
  obtain ⟨E, hE⟩ : ∃ E, insE [] m i = E := ⟨_, rfl⟩
  have HE := Lib.hid hE
  obtain ⟨N, hN⟩ : ∃ N, (insL [] m i).length = N := ⟨_, rfl⟩
  have HN := Lib.hid hN
  have g0 : decide ((100 : Int) < (m.length : Int)) = false := decide_eq_false (by omega)
  have HK := Lib.hid (cb_new w 24 #[.int .i64 k, .int .i64 i, .int .i64 j, .int .i64 n, .slice a m.length c])
  have c0x := HK.out.cell 4
  have cx := (HC.out _ B2.out).2.2
  have cj := (HC.out _ B2.out).2.1
  have ci := (HC.out _ B2.out).1
  dsimp only [OpV.s] at VM ci cj cx
  simp only [opO, zeroO] at R2 B2 BW VM ci cj cx HC
  clear hE hN hm hl
  change Calls _ _ #[.agg #[.int .i64 k, .int .i64 i, .int .i64 j, .int .i64 n, .slice a m.length c]] _ _
  go_enter Try.func3, Try.ntmps3
  go_wp2_with (first
    | (go_at_call 10; (with_reducible refine (none_at i _).mono ?_); rintro e w3 ⟨rfl, bb⟩; have R3 := Lib.hid (R2.out.below bb); have B3 := Lib.hid (below_add B2.out bb R2.out.hB); clear bb; clear ci cj cx; obtain ⟨ci, cj, cx⟩ := HC.out _ B3.out)
    | (go_at_call 11; (with_reducible refine (none_slice i j _).mono ?_); rintro e w4 ⟨rfl, bb⟩; have R4 := Lib.hid (R3.out.below bb); have B4 := Lib.hid (below_add B3.out bb R3.out.hB); clear bb; clear ci cj cx; obtain ⟨ci, cj, cx⟩ := HC.out _ B4.out)
    | (go_at_call 12; (with_reducible refine (none_lineof i i _).mono ?_); rintro e w5 ⟨rfl, bb⟩; have R5 := Lib.hid (R4.out.below bb); have B5 := Lib.hid (below_add B4.out bb R4.out.hB); clear bb; clear ci cj cx; obtain ⟨ci, cj, cx⟩ := HC.out _ B5.out)
    | (go_at_call 13; (with_reducible refine (none_offsetof i _).mono ?_); rintro e w6 ⟨rfl, bb⟩; have R6 := Lib.hid (R5.out.below bb); have B6 := Lib.hid (below_add B5.out bb R5.out.hB); clear bb; clear ci cj cx; obtain ⟨ci, cj, cx⟩ := HC.out _ B6.out)
    | (go_at_call 14; (with_reducible refine (none_split i i _).mono ?_); rintro e w7 ⟨rfl, bb⟩; have R7 := Lib.hid (R6.out.below bb); have B7 := Lib.hid (below_add B6.out bb R6.out.hB); clear bb; clear ci cj cx; obtain ⟨ci, cj, cx⟩ := HC.out _ B7.out; obtain ⟨di, dj, dx⟩ := HC.out _ (B7.out.alloc R7.out.hB (.cells #[] 21)))
    | (go_at_call 15; (with_reducible refine (rins_any _ i _ m _ (VM.out _ (B7.out.alloc R7.out.hB (.cells #[] 21))) HL.out HE.out HN.out).mono ?_); rintro e w8 ⟨ax, cx2, rfl, bb⟩; have R8 := Lib.hid ((R7.out.alloc (.cells #[] 21)).below bb); have B8 := Lib.hid (below_add (B7.out.alloc R7.out.hB (.cells #[] 21)) bb (R7.out.alloc (.cells #[] 21)).hB); clear bb; clear ci cj cx di dj dx; obtain ⟨ci, cj, cx⟩ := HC.out _ B8.out)
    | (go_at_call 16; (with_reducible refine (none_insert i _ _).mono ?_); rintro e w9 ⟨rfl, bb⟩; have R9 := Lib.hid (R8.out.below bb); have B9 := Lib.hid (below_add B8.out bb R8.out.hB); clear bb; clear ci cj cx; obtain ⟨ci, cj, cx⟩ := HC.out _ B9.out)
    | (go_at_call 17; (with_reducible refine (none_delete i j _).mono ?_); rintro e w10 ⟨rfl, bb⟩; have R10 := Lib.hid (R9.out.below bb); have B10 := Lib.hid (below_add B9.out bb R9.out.hB); clear bb; clear ci cj cx; obtain ⟨ci, cj, cx⟩ := HC.out _ B10.out)
    | (go_at_call 18; (with_reducible refine (none_concat _ _).mono ?_); rintro e w11 ⟨rfl, bb⟩; have R11 := Lib.hid (R10.out.below bb); have B11 := Lib.hid (below_add B10.out bb R10.out.hB); clear bb; clear ci cj cx; obtain ⟨ci, cj, cx⟩ := HC.out _ B11.out)
    | (go_at_call 19; (with_reducible refine (none_len _).mono ?_); rintro e w12 ⟨rfl, bb⟩; have R12 := Lib.hid (R11.out.below bb); have B12 := Lib.hid (below_add B11.out bb R11.out.hB); clear bb; clear ci cj cx; obtain ⟨ci, cj, cx⟩ := HC.out _ B12.out)
    | (go_at_call 20; (with_reducible refine (none_newlines _).mono ?_); rintro e w13 ⟨rfl, bb⟩; have R13 := Lib.hid (R12.out.below bb); have B13 := Lib.hid (below_add B12.out bb R12.out.hB); clear bb; clear ci cj cx; obtain ⟨ci, cj, cx⟩ := HC.out _ B13.out)
    | (go_at_call 21; (with_reducible refine (none_height _).mono ?_); rintro e w14 ⟨rfl, bb⟩; have R14 := Lib.hid (R13.out.below bb); have B14 := Lib.hid (below_add B13.out bb R13.out.hB); clear bb; clear ci cj cx; obtain ⟨ci, cj, cx⟩ := HC.out _ B14.out)
    | (go_at_call 22; (with_reducible refine (none_copy _).mono ?_); rintro e w15 ⟨rfl, bb⟩; have R15 := Lib.hid (R14.out.below bb); have B15 := Lib.hid (below_add B14.out bb R14.out.hB); clear bb; clear ci cj cx; obtain ⟨ci, cj, cx⟩ := HC.out _ B15.out)
    | (go_at_call 19; (with_reducible refine (rv_lenN R15.out rfl).mono ?_); rintro e w16 ⟨rfl, bb⟩; have R16 := Lib.hid (R15.out.below bb); have B16 := Lib.hid (below_add B15.out bb R15.out.hB); clear bb; clear ci cj cx; obtain ⟨ci, cj, cx⟩ := HC.out _ B16.out)
    | (go_at_call 16; (with_reducible refine (rv_insE R16.out (by have := HL.out; simp; omega) i _ (VM.out _ B16.out) HE.out rfl).mono ?_); rintro e w17 ⟨rfl, q1, bb⟩; have R17 := Lib.hid q1; have B17 := Lib.hid (B16.out.trans bb); clear q1 bb; clear ci cj cx; obtain ⟨ci, cj, cx⟩ := HC.out _ B17.out)
    | (go_at_call 19; (with_reducible refine (rv_lenN R17.out HN.out).mono ?_); rintro e w18 ⟨rfl, bb⟩; have R18 := Lib.hid (R17.out.below bb); have B18 := Lib.hid (below_add B17.out bb R17.out.hB); clear bb; clear ci cj cx; obtain ⟨ci, cj, cx⟩ := HC.out _ B18.out)
    | (go_at_call 9; refine (known10_any _).mono ?_; rintro e w19 ⟨rfl, bb⟩; have B99 := Lib.hid (below_add B18.out bb R18.out.hB); clear bb))
  go_ret
  exact ⟨rfl, BW.out.trans (B99.out.mono (Nat.le_succ _))⟩
theorem none_walk (o : OpV) (m : List Int) (w : World) (hm : Ints .i32 w o.s m) :
    Calls Try.prog 3 #[opA o] w fun e w' => e = .returned (.bool true) ∧ Below w.heap.size w w' := by
  by_cases hl : m.length ≤ 100
  · exact none_main o m w hm hl
  · exact none_long o m w hm hl
end Go.Proofs.Ytjgfgpkaeddjhaa
