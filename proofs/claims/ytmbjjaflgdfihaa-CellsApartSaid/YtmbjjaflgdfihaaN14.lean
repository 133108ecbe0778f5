
import Derived.Test.YtmbjjaflgdfihaaN13
/- N14: an op laid in ahead of the last one, where there is no room -/
namespace Go.Proofs.Ytmbjjaflgdfihaa
open Go.RowKit
set_option linter.unusedVariables false
set_option maxRecDepth 100000

theorem exec_append {P : Program} {o : Oper} {a : Act} {w w' : World} {v' : Value} (d s : Operand) (t t' : TypeId) (ho : o.op = .call { callee := .builtin .append, args := #[d, s], argTypes := #[t, t'] }) (v u : Value) (hd : a.eval d = v) (hs : a.eval s = u)
    (hr : ∀ ty, (Builtin.append_ #[t, t'] ty #[v, u]).run P w = .ok v' w') : (execOp a.eval o).run P w = .ok (.value v') w' := by
  have h := hr o.type
  simp [execOp, ho, resolve, invoke, builtin, hd, hs, h, Result.andThen]
theorem zero_len (z : Value) (n : Nat) : (Builtin.zeroCells z.cells n).size = n * z.cells.size := by simp [Builtin.zeroCells]

set_option maxHeartbeats 4000000 in
theorem insert_grow {F : Nat → Prop} (g c : Nat) (zs : List Oz) (d : Oz) (gu uc : Nat) (z : Oz) (w : World) (h : Oown F w (.slice (some ⟨g, 0, none⟩) (zs.length + 1) c) (zs ++ [d])) (hu : Oown F w (.slice (some ⟨gu, 0, none⟩) 1 uc) [z]) (hap : ∀ y ∈ zs ++ [d], Ap y z) (hc : c < zs.length + 2) (hl : zs.length ≤ 100663296) :
    Calls Try.prog 53 #[.slice (some ⟨g, 0, none⟩) (zs.length + 1) c, .int .i64 zs.length, .slice (some ⟨gu, 0, none⟩) 1 uc] w (InsP F w (zs ++ [z, d])) := by
  obtain ⟨i0, hi0, hz0, hz1, hz2⟩ := info_op
  have hrow := h.row
  rw [List.length_append, List.length_singleton, fl_app, fl_one] at hrow
  obtain ⟨cur, hg, hnc, hcm, hcs, R, hL⟩ := own_list hrow
  have hurow := hu.row
  rw [List.length_singleton, fl_one] at hurow
  obtain ⟨curu, hgu, -, -, hcsu, Ru, hLu⟩ := own_list hurow
  have hP : (fl ozC zs).length = zs.length * 5 := fl_len ozC zs
  have hD : (ozC.c d).length = 5 := ozC.len d
  have hZ : (ozC.c z).length = 5 := ozC.len z
  obtain ⟨n, hn⟩ : ∃ n, zs.length = n := ⟨_, rfl⟩
  have hgl := own_lt7 hrow rfl
  have hul := own_lt7 hurow rfl
  have hold : (Builtin.firstCells i0.size n (.slice (some ⟨g, 0, none⟩) n c)).run Try.prog w.drew = .ok (fl ozC zs).toArray w.drew := by
    rw [hz1]
    exact run_firstCells_some w.drew 5 n ⟨g, 0, none⟩ n c (fl ozC zs) (by rw [hP, hn]) (fun j v hj => by
      have hjl : j < (fl ozC zs).length := (List.getElem?_eq_some_iff.1 hj).1
      rw [Go.WideShapes.add_plain, cell_of_row w.drew g _ _ _ _ hg, ← Array.getElem?_toList, hL, Nat.zero_add, List.append_assoc, List.getElem?_append_left hjl]
      exact hj)
  have hrz : ∀ ty, (Builtin.append_ #[33, 3] ty #[.slice (some ⟨g, 0, none⟩) n c, .int .i64 2]).run Try.prog w =
      .ok (.slice (some ⟨w.heap.size, 0, none⟩) (n + 2) (grownCap w (n + 2) c 51)) (w.drew.alloc (.cells ((fl ozC zs).toArray ++ Builtin.zeroCells (Value.agg (opcs 0 0 none 0 0 none 0 0 none 0 0)).cells 2 ++ Builtin.zeroCells (Value.agg (opcs 0 0 none 0 0 none 0 0 none 0 0)).cells (grownCap w (n + 2) c 51 - (n + 2))) 51)) := fun ty =>
    Lib.run_append_grow_zeros w 33 3 ty 51 i0 _ .i64 .i64 Try.underlying33 Try.underlying3 hi0 hz0 (some ⟨g, 0, none⟩) n c (fl ozC zs) hold 2 (by omega) (by omega) (by omega) (by omega) (by rw [hz2]; omega) (by rw [hz2]; exact growslice_fits (by omega) (by omega))
  obtain ⟨G, hG⟩ : ∃ G, grownCap w (n + 2) c 51 = G := ⟨_, rfl⟩
  have hGn : n + 2 ≤ G := by rw [← hG]; exact grownCap_ge w _ _ _
  have hGm : G ≤ maxLen := by rw [← hG]; exact grownCap_le_maxLen w (n + 2) c _ (by unfold maxLen; omega)
  rw [hG] at hrz
  obtain ⟨Z2, hZ2⟩ : ∃ Z2, Builtin.zeroCells (Value.agg (opcs 0 0 none 0 0 none 0 0 none 0 0)).cells 2 = Z2 := ⟨_, rfl⟩
  obtain ⟨ZG, hZG⟩ : ∃ ZG, Builtin.zeroCells (Value.agg (opcs 0 0 none 0 0 none 0 0 none 0 0)).cells (G - (n + 2)) = ZG := ⟨_, rfl⟩
  have hZ2s : Z2.size = 10 := by rw [← hZ2, zero_len]; rfl
  obtain ⟨Y1, Y2, hY, hY1, hY2⟩ : ∃ Y1 Y2, Z2.toList = Y1 ++ Y2 ∧ Y1.length = 5 ∧ Y2.length = 5 := ⟨Z2.toList.take 5, Z2.toList.drop 5, (List.take_append_drop _ _).symm, by rw [List.length_take, Array.length_toList]; omega, by rw [List.length_drop, Array.length_toList]; omega⟩
  have hZGs : ZG.size = (G - (n + 2)) * 5 := by rw [← hZG, zero_len]; rfl
  rw [hZ2, hZG] at hrz
  obtain ⟨row0, hrow0⟩ : ∃ row0, (fl ozC zs).toArray ++ Z2 ++ ZG = row0 := ⟨_, rfl⟩
  rw [hrow0] at hrz
  obtain ⟨N, hN⟩ : ∃ N, w.heap.size = N := ⟨_, rfl⟩
  obtain ⟨row1, hrow1⟩ : ∃ row1, row1 = (fl ozC zs ++ ozC.c z ++ (Y2 ++ ZG.toList)).toArray := ⟨_, rfl⟩
  obtain ⟨row2, hrow2⟩ : ∃ row2, row2 = (fl ozC zs ++ ozC.c z ++ (ozC.c d ++ ZG.toList)).toArray := ⟨_, rfl⟩
  have hr0 : row0.size = n * 5 + 10 + (G - (n + 2)) * 5 := by rw [← hrow0, Array.size_append, Array.size_append, List.size_toArray, hP, hn, hZ2s, hZGs]
  have hr1 : row1.size = n * 5 + 10 + (G - (n + 2)) * 5 := by rw [hrow1, List.size_toArray, List.length_append, List.length_append, List.length_append, hP, hn, hZ, hY2, Array.length_toList, hZGs]; omega
  have hr2 : row2.size = n * 5 + 10 + (G - (n + 2)) * 5 := by rw [hrow2, List.size_toArray, List.length_append, List.length_append, List.length_append, hP, hn, hZ, hD, Array.length_toList, hZGs]; omega
  have hcA : ∀ (W : World) (hW : W.heap[N]? = some (.cells row0 51 (0, 0))) (hWu : W.heap[gu]? = some (.cells curu 51 (0, 0))) ty dc, (Builtin.copy_ #[33, 33] ty #[.slice (some ⟨N, n * 5, none⟩) 2 dc, .slice (some ⟨gu, 0, none⟩) 1 uc]).run Try.prog W = .ok (goInt 1) (W.setRow N row1) := fun W hW hWu ty dc => by
    have := run_copy_rowN (P := Try.prog) W 33 33 ty 51 N (n * 5) 2 dc ⟨gu, 0, none⟩ 1 uc 5 row0 _ (ozC.c z) Try.underlying33 op_size5 hW (by rw [hZ]; rfl) (fun j v hj => by
      have hj5 : j < 5 := by have := (List.getElem?_eq_some_iff.1 hj).1; omega
      rw [Go.WideShapes.add_plain, cell_of_row W gu _ _ _ _ hWu, ← Array.getElem?_toList, hLu, Nat.zero_add, List.getElem?_append_left (by omega)]
      exact hj) (by rw [hZ, hr0]; omega) (ozC.one z)
    rw [this]
    congr 2
    rw [hrow1, ← hrow0, hZ]
    congr 1
    have e2 : ((fl ozC zs).toArray ++ Z2 ++ ZG).toList = fl ozC zs ++ (Y1 ++ (Y2 ++ ZG.toList)) := by simp [hY]
    have e3 : n * 5 = (fl ozC zs).length := by rw [hP, hn]
    rw [e2, e3, List.take_left', List.drop_append, List.drop_of_length_le (by omega)]
    · simp [hY1]
    · rfl
  have hcB : ∀ (W : World) (hW : W.heap[N]? = some (.cells row1 51 (0, 0))) (hWg : W.heap[g]? = some (.cells cur 51 (0, 0))) ty dc sc, (Builtin.copy_ #[33, 33] ty #[.slice (some ⟨N, (n + 1) * 5, none⟩) 1 dc, .slice (some ⟨g, n * 5, none⟩) 1 sc]).run Try.prog W = .ok (goInt 1) (W.setRow N row2) := fun W hW hWg ty dc sc => by
    have := run_copy_rowN (P := Try.prog) W 33 33 ty 51 N ((n + 1) * 5) 1 dc ⟨g, n * 5, none⟩ 1 sc 5 row1 _ (ozC.c d) Try.underlying33 op_size5 hW (by rw [hD]; rfl) (fun j v hj => by
      have hj5 : j < 5 := by have := (List.getElem?_eq_some_iff.1 hj).1; omega
      rw [Go.WideShapes.add_plain, cell_of_row W g _ _ _ _ hWg, ← Array.getElem?_toList, hL, List.append_assoc, List.getElem?_append_right (by rw [hP]; omega), hP, hn, Nat.add_sub_cancel_left, List.getElem?_append_left (by omega)]
      exact hj) (by rw [hD, hr1]; omega) (ozC.one d)
    rw [this]
    congr 2
    rw [hrow2, hrow1, hD]
    congr 1
    have e1 : (n + 1) * 5 = (fl ozC zs ++ ozC.c z).length := by rw [List.length_append, hP, hZ, hn]; omega
    have e2 : (fl ozC zs ++ ozC.c z ++ (Y2 ++ ZG.toList)).toArray.toList = (fl ozC zs ++ ozC.c z) ++ (Y2 ++ ZG.toList) := by simp
    rw [e2, e1, List.take_left', List.drop_append, List.drop_of_length_le (by omega)]
    · simp [hY2]
    · rfl
  have HFIN := Lib.hid (fun (W : World) (hW : W.heap[N]? = some (.cells row2 51 (0, 0))) (hb : Below w.heap.size w W) => (show InsP F w (zs ++ [z, d]) (.returned (.slice (some ⟨N, 0, none⟩) (n + 2) G)) W from
    ⟨_, rfl, Oown.insert h (hu.own z (by simp)) hap (Off.of_below hb) (by
      have e : (zs ++ [z, d]).length = n + 2 := by simp [hn]
      rw [e]
      exact own_of_list hW hGn hGm (by rw [hr2]; omega) (R := ZG.toList) (by rw [hrow2]; simp [fl_app, fl_cons, fl_nil]) (by rw [fl_len, e]; rfl)) (fun k hk => .inr (by injection hk with hk; subst hk; exact Nat.le_of_eq hN)), Off.of_below hb⟩))
  have hcm2 : c ≤ 9223372036854775807 := by unfold maxLen at hcm; omega
  have hGm2 : G ≤ 9223372036854775807 := by unfold maxLen at hGm; omega
  have HW0 := Lib.hid (show (w.alloc (.cells row0 51)).drew.heap[N]? = some (.cells row0 51 (0, 0)) from by rw [← hN]; exact heap_alloc_new w _)
  have HWu := Lib.hid (show (w.alloc (.cells row0 51)).drew.heap[gu]? = some (.cells curu 51 (0, 0)) from (heap_alloc_old w _ hul).trans hgu)
  have HWg := Lib.hid (show (w.alloc (.cells row0 51)).drew.heap[g]? = some (.cells cur 51 (0, 0)) from (heap_alloc_old w _ hgl).trans hg)
  have HNE := Lib.hid (show g ≠ N from by rw [← hN]; exact Nat.ne_of_lt hgl)
  have HB := Lib.hid (show Below w.heap.size w (w.alloc (.cells row0 51)).drew from ((Below.refl _ _).alloc (Nat.le_refl _) _).drew)
  clear hrow0 hrow1 hrow2 hrow hurow hP hD hZ hr0 hr1 hr2 hL hLu hcs hcsu hcm hGm h hu hap hold hY hY1 hY2 hZ2 hZG hZ2s hZGs hG hg hgu hul hgl hz1 hz2
  rw [hn] at hnc hc hl ⊢
  clear hn
  rw [hN] at hrz
  have HNN := Lib.hid hN
  clear hN
  have e1 : ((n + 1 : Nat) : Int) = (n : Int) + 1 := by omega
  have w1 : IntKind.i64.wrap ((n : Int) + 1) = (n : Int) + 1 := by rw [IntKind.wrap_i64]; omega
  have w2 : IntKind.i64.wrap ((n : Int) + 1 + 1) = (n : Int) + 1 + 1 := by rw [IntKind.wrap_i64]; omega
  have w3 : IntKind.i64.wrap ((n : Int) + 1 + 1 - (n : Int)) = 2 := by rw [IntKind.wrap_i64]; omega
  have w4 : (n : Int) + 1 + 1 - (n : Int) = 2 := by omega
  have b1 : (c : Int) < (n : Int) + 1 + 1 := by omega
  have b2 : ¬ (c = n) := by omega
  have b3 : ¬ (G = n) := by omega
  have b7 : ¬ (G = n + 1) := by omega
  have b4 : (0 : Int) ≤ (n : Int) + 1 := by omega
  have b5 : (n : Int) ≤ (n : Int) + 1 := by omega
  have b6 : (n : Int) ≤ (n : Int) + 1 + 1 := by omega
  have e22 : n + 2 - n = 2 := by omega
  have e23 : n + 2 - (n + 1) = 1 := by omega
  have mixed : Try.prog.follows Departure.mixedOrders = true := by kernel_rfl
  have hg1 : ((w.alloc (.cells row0 51)).drew.setRow N row1).drew.heap[N]? = some (.cells row1 51 (0, 0)) := setRow_heap _ _ _ _ _ _ HW0.out
  have hgg1 : ((w.alloc (.cells row0 51)).drew.setRow N row1).drew.heap[g]? = some (.cells cur 51 (0, 0)) := (setRow_other _ _ _ _ HNE.out).trans HWg.out
  go_enter Try.func53, Try.ntmps53
  have hcA1 := fun ty dc => hcA _ HW0.out HWu.out ty dc
  go_wp2_with (at_builtin; refine wpList_do rfl (exec_append _ _ 33 3 rfl _ _ rfl rfl (fun ty => hrz ty)) ?_)
  go_region_law_o (refine step_do rfl (exec_copy _ _ 33 33 rfl (.slice (some ⟨N, (n + 1) * 5, none⟩) 1 (G - (n + 1))) (.slice (some ⟨g, n * 5, none⟩) 1 (c - n)) (by simp [Act.eval, Act.put]) (by simp [Act.eval, Act.put]) (fun ty => hcB _ hg1 hgg1 ty _ _)) ?_)
  go_wp2
  go_ret
  refine HFIN.out _ (setRow_heap _ _ _ _ _ _ hg1) ?_
  exact below_row (below_row HB.out (Nat.le_of_eq HNN.out)).drew (Nat.le_of_eq HNN.out)
end Go.Proofs.Ytmbjjaflgdfihaa
