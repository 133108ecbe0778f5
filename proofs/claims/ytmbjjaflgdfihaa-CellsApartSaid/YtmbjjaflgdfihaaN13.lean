
import Derived.Test.YtmbjjaflgdfihaaN12
import Derived.Shelf.RegionOpenPlain
/- N13: an op laid in ahead of the last one, where there is room -/
namespace Go.Proofs.Ytmbjjaflgdfihaa
open Go.RowKit
set_option linter.unusedVariables false
set_option maxRecDepth 100000

theorem wpList_do {P : Program} {ops : Array Oper} {rest : List Oper} {o : Oper} {a : Act} {w w' : World} {v : Value} {Q : Exit → Act → World → Prop} (hg : o.guard = none) (hv : (execOp a.eval o).run P w = .ok (.value v) w') (h : wpList P ops Q rest (a.put o.dst v) w') : wpList P ops Q (o :: rest) a w :=
  wpList_plain hg fun _ hK => wp_do hv (hK _ _ h)
theorem step_do {P : Program} {ops : Array Oper} {o : Oper} {a : Act} {w w' : World} {v : Value} {K : Act → World → Prop} {Q : Exit → Act → World → Prop} {E : Prop} (hg : o.guard = none) (hv : (execOp a.eval o).run P w = .ok (.value v) w') (h : K (a.put o.dst v) w') :
    if Region.wanted o (yielded ops a.tmps) = true then Oper.wp P o a w K Q else E := by
  have hw : Region.wanted o (yielded ops a.tmps) = true := by simp [Region.wanted, hg]
  rw [if_pos hw]
  exact wp_do hv h
theorem exec_copy {P : Program} {o : Oper} {a : Act} {w w' : World} {v' : Value} (d s : Operand) (t t' : TypeId) (ho : o.op = .call { callee := .builtin .copy, args := #[d, s], argTypes := #[t, t'] }) (v u : Value) (hd : a.eval d = v) (hs : a.eval s = u)
    (hr : ∀ ty, (Builtin.copy_ #[t, t'] ty #[v, u]).run P w = .ok v' w') : (execOp a.eval o).run P w = .ok (.value v') w' := by
  have h := hr o.type
  simp [execOp, ho, resolve, invoke, builtin, hd, hs, h, Result.andThen]
/-- What lies in the row of the call's own, as a list. -/
theorem own_list {w : World} {e : TypeId} {size n c g : Nat} {xs : List Value} (h : w.ownsRow 0 e size (.slice (some ⟨g, 0, none⟩) n c) n xs) : ∃ cur, w.heap[g]? = some (.cells cur e (0, 0)) ∧ n ≤ c ∧ c ≤ maxLen ∧ cur.size = c * size ∧ ∃ R, cur.toList = xs ++ R := by
  rcases h.2 with ⟨hn, _⟩ | ⟨g', cap', cur, hv, hB, hg, hc, hm, hs, ht⟩
  · cases hn
  · injection hv with e1 e2 e3
    injection e1 with e1
    injection e1 with e1
    subst e1 e3
    exact ⟨cur, hg, hc, hm, hs, cur.toList.drop (n * size), by rw [← ht, List.take_append_drop]⟩
theorem own_of_list {w : World} {e : TypeId} {size n c g : Nat} {xs R : List Value} {cur : Array Value} (hg : w.heap[g]? = some (.cells cur e (0, 0))) (hn : n ≤ c) (hm : c ≤ maxLen) (hs : cur.size = c * size) (hl : cur.toList = xs ++ R) (hx : xs.length = n * size) : w.ownsRow 0 e size (.slice (some ⟨g, 0, none⟩) n c) n xs :=
  ⟨hx, .inr ⟨g, c, cur, rfl, Nat.zero_le _, hg, hn, hm, hs, by rw [hl, ← hx, List.take_left']; rfl⟩⟩
theorem op_sizeOf : ∀ w, (sizeOf 51).run Try.prog w = .ok 5 w := fun w => by
  obtain ⟨i0, hi, -, h1, -⟩ := info_op
  simp [sizeOf, typeInfo, hi, h1]
theorem shape_of {w : World} {g : Nat} {cur : Array Value} {e : TypeId} (h : w.heap[g]? = some (.cells cur e (0, 0))) : w.shape? g = some (e, cur.size) := by simp [World.shape?, h]

theorem Oown.insert {F : Nat → Prop} {w W : World} {v v' : Value} {zs : List Oz} {d z : Oz} (h : Oown F w v (zs ++ [d])) (hz : OpOwn F w z) (hap : ∀ y ∈ zs ++ [d], Ap y z) (hO : Off (fun k => v.ownBlock = some k) w W)
    (hr : W.ownsRow 0 51 5 v' (zs ++ [z, d]).length (fl ozC (zs ++ [z, d]))) (hf : ∀ k, v'.ownBlock = some k → F k ∨ w.heap.size ≤ k) : Oown (fun k => F k ∨ w.heap.size ≤ k) W v' (zs ++ [z, d]) := by
  have hrow := h.row
  have hp := List.pairwise_append.1 h.ap
  refine ⟨hr, hf, fun y hy => ?_, ?_⟩
  · have : y = z ∨ y ∈ zs ++ [d] := by
      simp only [List.mem_append, List.mem_cons, List.not_mem_nil, or_false] at hy ⊢
      rcases hy with hy | hy | hy
      · exact .inr (.inl hy)
      · exact .inl hy
      · exact .inr (.inr hy)
    rcases this with rfl | hy
    · exact (hz.mono fun k hk => .inl hk).row hrow hO
    · exact ((h.own y hy).mono fun k hk => .inl hk).row hrow hO
  · rw [List.pairwise_append]
    refine ⟨hp.1, ?_, fun y hy x hx => ?_⟩
    · rw [List.pairwise_cons]
      exact ⟨fun x hx => by obtain rfl := List.mem_singleton.1 hx; exact (hap x (by simp)).symm, List.pairwise_singleton _ _⟩
    · simp only [List.mem_cons, List.not_mem_nil, or_false] at hx
      rcases hx with rfl | rfl
      · exact hap y (by simp [hy])
      · exact hp.2.2 y hy x (by simp)
theorem off_row (w : World) (g : Nat) (cs : Array Value) : Off (fun k => k = g) w (w.setRow g cs) := ⟨rfl, rfl, rfl, by simp [World.setRow], fun k _ hk => setRow_other _ _ _ _ hk⟩
set_option maxHeartbeats 4000000 in
theorem insert_room {F : Nat → Prop} (g c : Nat) (zs : List Oz) (d : Oz) (gu uc : Nat) (z : Oz) (w : World) (h : Oown F w (.slice (some ⟨g, 0, none⟩) (zs.length + 1) c) (zs ++ [d])) (hu : Oown F w (.slice (some ⟨gu, 0, none⟩) 1 uc) [z]) (hap : ∀ y ∈ zs ++ [d], Ap y z) (hne : gu ≠ g) (hc : zs.length + 2 ≤ c) :
    Calls Try.prog 53 #[.slice (some ⟨g, 0, none⟩) (zs.length + 1) c, .int .i64 zs.length, .slice (some ⟨gu, 0, none⟩) 1 uc] w (InsP F w (zs ++ [z, d])) := by
  have hrow := h.row
  rw [List.length_append, List.length_singleton, fl_app, fl_one] at hrow
  obtain ⟨cur, hg, -, hcm, hcs, R, hL⟩ := own_list hrow
  have hurow := hu.row
  rw [List.length_singleton, fl_one] at hurow
  obtain ⟨curu, hgu, -, -, hcsu, Ru, hLu⟩ := own_list hurow
  have hP : (fl ozC zs).length = zs.length * 5 := fl_len ozC zs
  have hD : (ozC.c d).length = 5 := ozC.len d
  have hZ : (ozC.c z).length = 5 := ozC.len z
  have hcl : cur.size = zs.length * 5 + 5 + R.length := by
    have := congrArg List.length hL
    simp only [List.length_append, Array.length_toList] at this
    omega
  obtain ⟨R1, R2, hR, hR1⟩ : ∃ R1 R2, R = R1 ++ R2 ∧ R1.length = 5 := ⟨R.take 5, R.drop 5, (List.take_append_drop _ _).symm, by rw [List.length_take]; omega⟩
  subst hR
  obtain ⟨n, hn⟩ : ∃ n, zs.length = n := ⟨_, rfl⟩
  have hul := own_lt7 hurow rfl
  -- the two copies
  obtain ⟨cur1, hcur1⟩ : ∃ cur1, cur1 = (fl ozC zs ++ ozC.c d ++ (ozC.c d ++ R2)).toArray := ⟨_, rfl⟩
  obtain ⟨cur2, hcur2⟩ : ∃ cur2, cur2 = (fl ozC zs ++ ozC.c z ++ (ozC.c d ++ R2)).toArray := ⟨_, rfl⟩
  have hs1 : cur1.size = n * 5 + 5 + (5 + R2.length) := by rw [hcur1, List.size_toArray, List.length_append, List.length_append, List.length_append, hP, hD, hn]
  have hs2 : cur2.size = n * 5 + 5 + (5 + R2.length) := by rw [hcur2, List.size_toArray, List.length_append, List.length_append, List.length_append, hP, hD, hZ, hn]
  have hcA : ∀ (W : World) (hW : W.heap[g]? = some (.cells cur 51 (0, 0))) ty dc sc, (Builtin.copy_ #[33, 33] ty #[.slice (some ⟨g, (n + 1) * 5, none⟩) 1 dc, .slice (some ⟨g, n * 5, none⟩) 2 sc]).run Try.prog W = .ok (goInt 1) (W.setRow g cur1) := fun W hW ty dc sc => by
    have := run_copy_rowN (P := Try.prog) W 33 33 ty 51 g ((n + 1) * 5) 1 dc ⟨g, n * 5, none⟩ 2 sc 5 cur _ (ozC.c d) Try.underlying33 op_size5 hW (by rw [hD]; rfl) (fun j v hj => by
      have hj5 : j < 5 := by have := (List.getElem?_eq_some_iff.1 hj).1; omega
      rw [Go.WideShapes.add_plain, cell_of_row W g _ _ _ _ hW, ← Array.getElem?_toList, hL, List.append_assoc, List.getElem?_append_right (by rw [hP]; omega), hP, hn, Nat.add_sub_cancel_left, List.getElem?_append_left (by omega)]
      exact hj) (by rw [hD]; omega) (ozC.one d)
    rw [this]
    congr 2
    rw [hcur1, hL, hD]
    congr 1
    have e1 : (n + 1) * 5 = (fl ozC zs ++ ozC.c d).length := by rw [List.length_append, hP, hD, hn]; omega
    rw [e1, List.take_left', List.drop_append, List.drop_of_length_le (by omega)]
    · simp [hR1]
    · rfl
  have hcB : ∀ (W : World) (hW : W.heap[g]? = some (.cells cur1 51 (0, 0))) (hWu : W.heap[gu]? = some (.cells curu 51 (0, 0))) ty dc, (Builtin.copy_ #[33, 33] ty #[.slice (some ⟨g, n * 5, none⟩) 2 dc, .slice (some ⟨gu, 0, none⟩) 1 uc]).run Try.prog W = .ok (goInt 1) (W.setRow g cur2) := fun W hW hWu ty dc => by
    have := run_copy_rowN (P := Try.prog) W 33 33 ty 51 g (n * 5) 2 dc ⟨gu, 0, none⟩ 1 uc 5 cur1 _ (ozC.c z) Try.underlying33 op_size5 hW (by rw [hZ]; rfl) (fun j v hj => by
      have hj5 : j < 5 := by have := (List.getElem?_eq_some_iff.1 hj).1; omega
      rw [Go.WideShapes.add_plain, cell_of_row W gu _ _ _ _ hWu, ← Array.getElem?_toList, hLu, Nat.zero_add, List.getElem?_append_left (by omega)]
      exact hj) (by rw [hZ, hs1]; omega) (ozC.one z)
    rw [this]
    congr 2
    rw [hcur2, hcur1, hZ]
    congr 1
    have e2 : (fl ozC zs ++ ozC.c d ++ (ozC.c d ++ R2)).toArray.toList = fl ozC zs ++ (ozC.c d ++ (ozC.c d ++ R2)) := by simp
    have e3 : n * 5 = (fl ozC zs).length := by rw [hP, hn]
    rw [e2, e3, List.take_left', List.drop_append, List.drop_of_length_le (by omega)]
    · simp [hD]
    · rfl
  have hov : ∀ lb cb, (callFunc 63 #[.slice (some ⟨gu, 0, none⟩) 1 uc, .slice (some ⟨g, (n + 1) * 5, none⟩) lb cb]).run Try.prog w = .ok (.value (.bool false)) w := fun lb cb => by
    rw [run_callFunc_extern Try.func63 (by kernel_rfl) (by kernel_rfl) (by kernel_rfl) (e := Extern.SlicesOverlaps.overlaps #[33, 33] #[4]) (by kernel_rfl),
      Lib.run_overlaps_apart w 33 4 51 Try.underlying33 5 op_sizeOf ⟨gu, 0, none⟩ ⟨g, (n + 1) * 5, none⟩ 1 uc lb cb hne _ _ _ _ (shape_of hgu) (shape_of hg) (by omega) (by simp [World.frozen?, hgu]) (by simp [World.frozen?, hgu])]
    rfl
  have HFIN := Lib.hid (fun (W : World) (hW : W.heap[g]? = some (.cells cur2 51 (0, 0))) (hO : Off (fun k => k = g) w W) => (show InsP F w (zs ++ [z, d]) (.returned (.slice (some ⟨g, 0, none⟩) (n + 1 + 1) c)) W from
    ⟨_, rfl, Oown.insert h (hu.own z (by simp)) hap (hO.mono (fun k hk => by rw [hk]; rfl)) (by
      have e : (zs ++ [z, d]).length = n + 1 + 1 := by simp [hn]
      rw [e]
      exact own_of_list hW (by omega) hcm (by rw [hs2]; rw [hcl] at hcs; simp only [List.length_append] at hcs; omega) (R := R2) (by rw [hcur2]; simp [fl_app, fl_cons, fl_nil]) (by rw [fl_len, e]; rfl)) (fun k hk => .inl (h.f k hk)), hO.mono (fun k hk => by rw [hk]; exact h.f g rfl)⟩))
  have hc2 : n + 2 ≤ c := by omega
  have hcm2 : c ≤ 9223372036854775807 := by unfold maxLen at hcm; omega
  clear hcur1 hcur2 hrow hurow hP hD hZ hcl hR1 hs1 hs2 hL hLu hcs hcsu hcm hul h hu hap hc
  rw [hn]
  clear hn
  have e1 : ((n + 1 : Nat) : Int) = (n : Int) + 1 := by omega
  have w1 : IntKind.i64.wrap ((n : Int) + 1) = (n : Int) + 1 := by rw [IntKind.wrap_i64]; omega
  have w2 : IntKind.i64.wrap ((n : Int) + 1 + 1) = (n : Int) + 1 + 1 := by rw [IntKind.wrap_i64]; omega
  have b1 : ¬ ((c : Int) < (n : Int) + 1 + 1) := by omega
  have b2 : ¬ (c = n) := by omega
  have b3 : ¬ (c = n + 1) := by omega
  have b4 : (0 : Int) ≤ (n : Int) + 1 := by omega
  have b5 : (n : Int) ≤ (n : Int) + 1 := by omega
  have b6 : (n : Int) ≤ (n : Int) + 1 + 1 := by omega
  have e22 : n + 1 + 1 - n = 2 := by omega
  have mixed : Try.prog.follows Departure.mixedOrders = true := by kernel_rfl
  have hg1 : (w.drew.setRow g cur1).heap[g]? = some (.cells cur1 51 (0, 0)) := setRow_heap _ _ _ _ _ _ hg
  have hgu1 : (w.drew.setRow g cur1).heap[gu]? = some (.cells curu 51 (0, 0)) := (setRow_other _ _ _ _ hne).trans hgu
  go_enter Try.func53, Try.ntmps53
  go_wp2_with (simp only [hov])
  go_region_law_o (refine step_do rfl (exec_copy _ _ 33 33 rfl (.slice (some ⟨g, (n + 1) * 5, none⟩) 1 (c - (n + 1))) (.slice (some ⟨g, n * 5, none⟩) 2 (c - n)) (by simp [Act.eval, Act.put]) (by simp [Act.eval, Act.put]) (fun ty => hcA w.drew hg ty _ _)) ?_)
  go_wp2_with (at_builtin; refine wpList_do rfl (exec_copy _ _ 33 33 rfl _ _ rfl rfl (fun ty => hcB _ hg1 hgu1 ty _)) ?_)
  go_ret
  exact HFIN.out _ (setRow_heap _ _ _ _ _ _ hg1) ((Off.of_below (S := fun k => k = g) (Below.refl w.heap.size w).drew).seq ((off_row _ g cur1).seq (off_row _ g cur2)))
end Go.Proofs.Ytmbjjaflgdfihaa
