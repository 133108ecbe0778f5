
import Derived.Test.YteilhjkkgdgbkaaNK
/- NL: the reference's Take, where no place is free; Drop; both, as a law takes them -/
namespace Go.Proofs.Yteilhjkkgdgbkaa
open Go.RowKit
set_option linter.unusedVariables false

section
variable {B : Nat} {U : Nat → Prop} {rb : Nat} {xv tv lv : Value} {X : List Int} {T : List Bool} {A : ArS Int}
/-- A thing more behind a row. -/
theorem push_row {α : Type} {C : Cel α} (hm : C.m = 1) {t : TypeId} {v : Value} {I : List α} {y : α} {c : Value} (hy : C.c y = [c]) {g4 cap4 l : Nat} {wr w4 : World} (hl : l = I.length) (ho : w4.ownsRow 0 t 1 (.slice (some ⟨g4, 0, none⟩) (l + 1) cap4) (l + 1) (fl C I ++ [c])) (hG : (wr.alloc (.cells #[c] t)).grownBy w4 v.ownBlock) (ha : v.ownBlock = some g4 ∨ g4 = wr.heap.size + 1) :
    Off (fun k => v.ownBlock = some k) wr w4 ∧ w4.ownsRow 0 t 1 (.slice (some ⟨g4, 0, none⟩) (l + 1) cap4) (I ++ [y]).length (fl C (I ++ [y])) ∧ ∀ g, (Value.slice (some ⟨g4, 0, none⟩) (l + 1) cap4).ownBlock = some g → v.ownBlock = some g ∨ wr.heap.size ≤ g := by
  subst hl
  have hbA := (Below.refl wr.heap.size wr).alloc (Nat.le_refl _) (.cells #[c] t)
  refine ⟨(Off.of_below hbA).seq (Off.of_grown hG (fun g hg => hg)), ?_, fun g hg => ?_⟩
  · rw [List.length_append, fl_app, fl_one, hy]; exact ho
  · cases hg
    rcases ha with e | e
    · exact .inl e
    · right; show wr.heap.size ≤ g4; omega
set_option maxHeartbeats 2000000 in
theorem rtake_new (x : Int) (w : World) (h : RefM B U rb xv tv lv X T [] w) (hlT : T.length = X.length) (hX : X.length ≤ 1000000) :
    Calls Try.prog 11 #[.pointer (some ⟨rb, 0, none⟩), .int .i64 x] w fun e w' => e = .returned (.int .i64 (X.length : Nat)) ∧ (∃ xv' tv', RefM B (fun k => U k ∨ w.heap.size ≤ k) rb xv' tv' lv (X ++ [x]) (T ++ [true]) [] w') ∧ Off U w w' := by
  obtain ⟨xa, xc, rfl, -, -⟩ := own_shape h.hx
  obtain ⟨ta, tc, rfl, -, -⟩ := own_shape h.ht
  obtain ⟨la, lc, rfl, -, -⟩ := own_shape h.hl
  have hsB : ∀ k, U k ∨ w.heap.size ≤ k → B ≤ k := fun k hk => by rcases hk with hk | hk; exact h.sB k hk; have := h.hB; omega
  have h0 := h.mono (U' := fun k => U k ∨ w.heap.size ≤ k) (fun k hk => .inl hk) hsB
  obtain ⟨c0, c1, c2⟩ := h0.cells
  obtain ⟨i0, ki, kz0, kz1, kz2⟩ := info_i64
  obtain ⟨j0, ji, jz0, jz1, jz2⟩ := info_bool
  have hbA := (Below.refl w.heap.size w).alloc (Nat.le_refl _) (.cells #[.int .i64 x] 2)
  have M0 := Lib.hid (h0.below hbA)
  have O0 := Lib.hid (Off.of_below (S := fun k => U k ∨ w.heap.size ≤ k) hbA)
  have HN := Lib.hid (heap_alloc_new w (.cells #[.int .i64 x] 2))
  have H0 := Lib.hid h0
  have HT := Lib.hid hlT
  have c2' : w.cell? ⟨rb, 2, none⟩ = some (.slice la 0 lc) := c2
  clear h h0 hsB hbA hlT c2 c1
  go_enter Try.func11, Try.ntmps11
  go_wp2_with (at_builtin; refine wpList_append_lies _ rfl (.tmp 58) (.tmp 60) 26 rfl 0 2 i0 (.int .i64 0) 1 8 Try.underlying26 ki kz0 kz1 kz2 rfl (by decide) (.slice xa X.length xc) X.length (fl xC X) rfl M0.out.hx ⟨w.heap.size, 0, none⟩ 1 1 [.int .i64 x] rfl rfl (World.news_of_block HN.out) (by simp [Value.oneCell']) (by decide) (by unfold maxLen; omega) (by omega) (Nat.zero_le _) _ rfl ?_; intro g4 cap4 w4 ho4 hg4 ha4 hl4; refine Hid.out ?_)
  obtain ⟨q1, q2, q3⟩ := push_row (C := xC) rfl (y := x) rfl rfl ho4 hg4 (by simpa using ha4)
  have hst4 := M0.out.st_far M0.out.hx (by decide) hg4
  have d0 : w4.cell? ⟨rb, 0, none⟩ = some (.slice xa X.length xc) := by rw [cell_of_row w4 rb 0 _ _ _ hst4]; rfl
  have d0f : w4.frozen? ⟨rb, 0, none⟩ = false := by simp [World.frozen?, hst4]
  have hM1 := M0.out.rX (X' := X ++ [x]) hg4 q2 (fun g hg => by
    rcases q3 g hg with e | e
    · exact H0.out.sX g e
    · exact .inr e)
  obtain ⟨e0, e1, -⟩ := hM1.cells
  have M1 := Lib.hid hM1
  have O1 := Lib.hid ((O0.out.seq (Off.of_grown hg4 (fun g hg => M0.out.sX g hg))).seq (Off.of_grown (grown_set (w := w4) (g := rb) (o := 0) (.slice (some ⟨g4, 0, none⟩) (X.length + 1) cap4)) (fun g hg => by cases hg; exact M0.out.sR)))
  clear ho4 hg4 ha4 hl4 q1 q2 q3 hst4 hM1 HN
  refine Lib.hid ?_
  have hstop : True := trivial
  have hbB := (Below.refl (w4.setCell ⟨rb, 0, none⟩ (.slice (some ⟨g4, 0, none⟩) (X.length + 1) cap4)).heap.size (w4.setCell ⟨rb, 0, none⟩ (.slice (some ⟨g4, 0, none⟩) (X.length + 1) cap4))).alloc (Nat.le_refl _) (.cells #[.bool true] 4)
  have M2 := Lib.hid (M1.out.below hbB)
  have O2 := Lib.hid (O1.out.seq (Off.of_below hbB))
  have HN2 := Lib.hid (heap_alloc_new (w4.setCell ⟨rb, 0, none⟩ (.slice (some ⟨g4, 0, none⟩) (X.length + 1) cap4)) (.cells #[.bool true] 4))
  have HSZ := Lib.hid (show w.heap.size ≤ (w4.setCell ⟨rb, 0, none⟩ (.slice (some ⟨g4, 0, none⟩) (X.length + 1) cap4)).heap.size from O1.out.size)
  have HN3 := Lib.hid (show ((w4.setCell ⟨rb, 0, none⟩ (.slice (some ⟨g4, 0, none⟩) (X.length + 1) cap4)).alloc (.cells #[.bool true] 4)).heap[w4.heap.size]? = some (.cells #[.bool true] 4) from by have := HN2.out; simpa using this)
  have hTb : T.length ≤ 1000000 := by rw [HT.out]; exact hX
  clear hbB hstop
  go_wp2_with (at_builtin; refine wpList_append_lies _ rfl (.tmp 68) (.tmp 69) 27 rfl 0 4 j0 (.bool false) 1 1 Try.underlying27 ji jz0 jz1 jz2 rfl (by decide) (.slice ta T.length tc) T.length (fl tC T) rfl M2.out.ht ⟨w4.heap.size, 0, none⟩ 1 1 [.bool true] rfl rfl (World.news_of_block HN3.out) (by simp [Value.oneCell']) (by decide) (by unfold maxLen; omega) (by omega) (Nat.zero_le _) _ rfl ?_; intro g5 cap5 w5 ho5 hg5 ha5 hl5; refine Hid.out ?_)
  obtain ⟨q1, q2, q3⟩ := push_row (C := tC) rfl (y := true) rfl rfl ho5 hg5 (by simpa using ha5)
  have hst5 := M2.out.st_far M2.out.ht (by decide) hg5
  have d1 : w5.cell? ⟨rb, 1, none⟩ = some (.slice ta T.length tc) := by rw [cell_of_row w5 rb 1 _ _ _ hst5]; rfl
  have d1f : w5.frozen? ⟨rb, 1, none⟩ = false := by simp [World.frozen?, hst5]
  have hM3 := M2.out.rT (T' := T ++ [true]) hg5 q2 (fun g hg => by
    rcases q3 g hg with e | e
    · exact M1.out.sT g e
    · exact .inr (Nat.le_trans HSZ.out e))
  obtain ⟨f0, f1, -⟩ := hM3.cells
  have M3 := Lib.hid hM3
  have O3 := Lib.hid ((O2.out.seq (Off.of_grown hg5 (fun g hg => M2.out.sT g hg))).seq (Off.of_grown (grown_set (w := w5) (g := rb) (o := 1) (.slice (some ⟨g5, 0, none⟩) (T.length + 1) cap5)) (fun g hg => by cases hg; exact M2.out.sR)))
  clear ho5 hg5 ha5 hl5 q1 q2 q3 hst5 hM3 HN2 HN3 HSZ
  refine Lib.hid ?_
  go_wp2
  go_ret
  exact ⟨rfl, ⟨_, _, M3.out⟩, Off.cut O3.out⟩
set_option maxHeartbeats 2000000 in
theorem rdrop_any (w : World) {i : Nat} (h : RefM B U rb xv tv lv X T A.free w) (hiX : i < X.length) (hiT : i < T.length) (hfb : A.free.length ≤ 1000000) :
    Calls Try.prog 13 #[.pointer (some ⟨rb, 0, none⟩), .int .i64 (i : Nat)] w fun e w' => e = .returned (.tuple #[]) ∧ (∃ lv', RefM B (fun k => U k ∨ w.heap.size ≤ k) rb xv tv lv' (X.set i 0) (T.set i false) (A.free ++ [i]) w') ∧ Off U w w' := by
  obtain ⟨tg, tcap, rfl, -, -, -, htf, htat⟩ := own_at rfl h.ht (by omega)
  obtain ⟨xg, xcap, rfl, -, -, -, -, -⟩ := own_at rfl h.hx (by omega)
  obtain ⟨la, lc, rfl, -, -⟩ := own_shape h.hl
  obtain ⟨i0, ki, kz0, kz1, kz2⟩ := info_in_6
  have hsB : ∀ k, U k ∨ w.heap.size ≤ k → B ≤ k := fun k hk => by rcases hk with hk | hk; exact h.sB k hk; have := h.hB; omega
  obtain ⟨-, c1, -⟩ := h.cells
  have ct := htat i hiT _ rfl
  have ft := htf i
  have h1 := (h.mono (U' := fun k => U k ∨ w.heap.size ≤ k) (fun k hk => .inl hk) hsB).pT hiT false
  obtain ⟨d0, -, -⟩ := h1.cells
  obtain ⟨xg', _, e, -, -, -, hxf, hxat⟩ := own_at rfl h1.hx (by omega)
  have e1 : xg = xg' := by injection e with e1 _ _; injection e1 with e1; injection e1 with e1
  subst e1
  have cx := hxat i hiX _ rfl
  have fx := hxf i
  have h2 := h1.pX hiX 0
  have O2 := Lib.hid ((Off.of_grown (S := fun k => U k ∨ w.heap.size ≤ k) (grown_set (w := w) (g := tg) (o := i) (.bool false)) (fun g hg => by cases hg; exact .inl (h.sT _ rfl))).seq (Off.of_grown (grown_set (w := w.setCell ⟨tg, i, none⟩ (.bool false)) (g := xg) (o := i) (.int .i64 0)) (fun g hg => by cases hg; exact h1.sX _ rfl)))
  obtain ⟨-, -, b2⟩ := h2.cells
  have M2 := Lib.hid h2
  have ki0 : (0 : Int) ≤ (i : Int) := by omega
  have ki1 : (i : Int) < (X.length : Int) := by omega
  have ki2 : (i : Int) < (T.length : Int) := by omega
  have hz : ((w.setCell ⟨tg, i, none⟩ (.bool false)).setCell ⟨xg, i, none⟩ (.int .i64 0)).heap.size = w.heap.size := by simp
  have hbA := (Below.refl _ ((w.setCell ⟨tg, i, none⟩ (.bool false)).setCell ⟨xg, i, none⟩ (.int .i64 0))).alloc (Nat.le_refl _) (.cells #[.int .i64 (i : Nat)] 3)
  have M3 := Lib.hid (M2.out.below hbA)
  have O3 := Lib.hid (O2.out.seq (Off.of_below hbA))
  have HN := Lib.hid (show (((w.setCell ⟨tg, i, none⟩ (.bool false)).setCell ⟨xg, i, none⟩ (.int .i64 0)).alloc (.cells #[.int .i64 (i : Nat)] 3)).heap[w.heap.size]? = some (.cells #[.int .i64 (i : Nat)] 3) from by
    have := heap_alloc_new ((w.setCell ⟨tg, i, none⟩ (.bool false)).setCell ⟨xg, i, none⟩ (.int .i64 0)) (.cells #[.int .i64 (i : Nat)] 3)
    rw [hz] at this
    exact this)
  have HZ := Lib.hid hz
  clear h h1 h2 hsB htf htat hxf hxat e hz hbA
  go_enter Try.func13, Try.ntmps13
  go_wp2_with (at_builtin; refine wpList_append_lies _ rfl (.tmp 20) (.tmp 22) 28 rfl 0 3 i0 (.int .i64 0) 1 8 Try.underlying28 ki kz0 kz1 kz2 rfl (by decide) (.slice la A.free.length lc) A.free.length (fl natC A.free) rfl M3.out.hl ⟨w.heap.size, 0, none⟩ 1 1 [.int .i64 (i : Nat)] rfl rfl (World.news_of_block HN.out) (by simp [Value.oneCell']) (by decide) (by unfold maxLen; omega) (by omega) (Nat.zero_le _) _ rfl ?_; intro g5 cap5 w5 ho5 hg5 ha5 hl5; refine Hid.out ?_)
  obtain ⟨q1, q2, q3⟩ := push_row (C := natC) rfl (y := i) rfl rfl ho5 hg5 (by simpa using ha5)
  have hst5 : w5.heap[rb]? = _ := far hg5 M3.out.hst (fun g' hg' => by obtain ⟨o', r1, r2⟩ := tag_ne M3.out.hl (e' := 30) (by decide) g' hg'; exact ⟨o', r1, r2 _⟩)
  have d2 : w5.cell? ⟨rb, 2, none⟩ = some (.slice la A.free.length lc) := by rw [cell_of_row w5 rb 2 _ _ _ hst5]; rfl
  have d2f : w5.frozen? ⟨rb, 2, none⟩ = false := by simp [World.frozen?, hst5]
  have FM := Lib.hid (M3.out.rL (fr' := A.free ++ [i]) (.inr rfl) hg5 q2 (fun g hg => by
    rcases q3 g hg with e | e
    · exact M3.out.sL g e
    · right; rw [HZ.out] at e; exact e))
  have FO := Lib.hid ((O3.out.seq (Off.of_grown hg5 (fun g hg => M3.out.sL g hg))).seq (Off.of_grown (grown_set (w := w5) (g := rb) (o := 2) (.slice (some ⟨g5, 0, none⟩) (A.free.length + 1) cap5)) (fun g hg => by cases hg; exact M3.out.sR)))
  clear ho5 hg5 ha5 hl5 q1 q2 q3 hst5 HN HZ
  refine Lib.hid ?_
  go_wp2
  go_end0
  exact ⟨rfl, ⟨_, FM.out⟩, Off.cut FO.out⟩

/-! ### as a law takes them -/
variable {w : World}
theorem rtake (x : Int) (h : RefR B U rb A w) (hok : A.Ok) (hl : A.ps.length ≤ 1000000) (hl2 : A.free.length ≤ 1000000) :
    Calls Try.prog 11 #[.pointer (some ⟨rb, 0, none⟩), .int .i64 x] w fun e w' => e = .returned (.int .i64 (A.fresh : Nat)) ∧ RefR B (fun k => U k ∨ w.heap.size ≤ k) rb (A.take x) w' ∧ Off U w w' := by
  obtain ⟨xv, tv, lv, h⟩ := h
  unfold ArS.take ArS.fresh
  cases hf : A.free.getLast? with
  | some i =>
    obtain ⟨f0, e⟩ := List.getLast?_eq_some_iff.1 hf
    obtain ⟨b1, b2⟩ := hok.freeB i (List.mem_of_getLast? hf)
    rw [e] at h hl2
    simp at hl2
    refine (rtake_old x w h rfl (by simpa using b1) (by simpa using b1) (by omega)).mono fun e1 w1 ⟨q1, ⟨lv', q2⟩, q3⟩ => ⟨q1, ⟨xv, tv, lv', ?_⟩, q3⟩
    have e2 : A.free.dropLast = f0 := by rw [e, List.dropLast_concat]
    show RefM B _ rb xv tv lv' ((A.ps.set i (some x)).map thing) ((A.ps.set i (some x)).map Option.isSome) A.free.dropLast w1
    rw [e2, List.map_set, List.map_set]
    exact q2
  | none =>
    have e : A.free = [] := by simpa using hf
    rw [e] at h
    refine (rtake_new x w h (by simp) (by simpa using hl)).mono fun e1 w1 ⟨q1, ⟨xv', tv', q2⟩, q3⟩ => ⟨by rw [q1]; simp, ⟨xv', tv', lv, ?_⟩, q3⟩
    show RefM B _ rb xv' tv' lv ((A.ps ++ [some x]).map thing) ((A.ps ++ [some x]).map Option.isSome) A.free w1
    rw [e, List.map_append, List.map_append]
    exact q2
theorem rdrop {i : Nat} {x : Int} (h : RefR B U rb A w) (hx : A.at_ i = some x) (hl2 : A.free.length ≤ 1000000) :
    Calls Try.prog 13 #[.pointer (some ⟨rb, 0, none⟩), .int .i64 (i : Nat)] w fun e w' => e = .returned (.tuple #[]) ∧ RefR B (fun k => U k ∨ w.heap.size ≤ k) rb (A.out i) w' ∧ Off U w w' := by
  obtain ⟨xv, tv, lv, h⟩ := h
  have hlt := at_lt hx
  refine (rdrop_any (A := A) w h (by simpa using hlt) (by simpa using hlt) hl2).mono fun e1 w1 ⟨q1, ⟨lv', q2⟩, q3⟩ => ⟨q1, ⟨xv, tv, lv', ?_⟩, q3⟩
  show RefM B _ rb xv tv lv' ((A.ps.set i none).map thing) ((A.ps.set i none).map Option.isSome) (A.free ++ [i]) w1
  rw [List.map_set, List.map_set]
  exact q2
/-- A thing is put anew. -/
theorem RefR.put {i : Nat} {x : Int} (h : RefR B U rb A w) (hx : A.at_ i = some x) (y : Int) : ∃ xg xc, w.cell? ⟨rb, 0, none⟩ = some (.slice (some ⟨xg, 0, none⟩) A.ps.length xc) ∧ w.cell? ⟨xg, i, none⟩ = some (.int .i64 x) ∧ w.frozen? ⟨xg, i, none⟩ = false ∧ U xg ∧ RefR B U rb (A.put i y) (w.setCell ⟨xg, i, none⟩ (.int .i64 y)) := by
  have hlt := at_lt hx
  have ho := h.open_
  obtain ⟨xv, tv, lv, h⟩ := h
  obtain ⟨xg, xc, rfl, -, -, -, hxf, hxat⟩ := own_at rfl h.hx (by simp; omega)
  obtain ⟨c0, -, -⟩ := h.cells
  rw [List.length_map] at c0
  have hlt2 : i < (A.ps.map thing).length := by simpa using hlt
  have ha : A.ps[i] = some x := by have := at_get hlt; rw [List.getElem?_eq_getElem hlt, hx] at this; exact Option.some.inj this
  refine ⟨xg, xc, c0, hxat i hlt2 _ ?_, hxf i, h.sX _ rfl, ?_⟩
  · show [Value.int .i64 ((A.ps.map thing)[i])] = _
    rw [List.getElem_map, ha]; rfl
  · have hp := h.pX hlt2 y
    refine ⟨.slice (some ⟨xg, 0, none⟩) (A.ps.map thing).length xc, tv, lv, ?_⟩
    show RefM B U rb _ tv lv ((A.ps.set i (some y)).map thing) ((A.ps.set i (some y)).map Option.isSome) A.free _
    rw [List.map_set, List.map_set]
    have e : (A.ps.map Option.isSome).set i (some y).isSome = A.ps.map Option.isSome := by
      apply List.ext_getElem?
      intro k
      rw [List.getElem?_set]
      split
      · rename_i hk
        subst hk
        rw [if_pos (by simpa using hlt), List.getElem?_map, List.getElem?_eq_getElem hlt, ha]; rfl
      · rfl
    rw [e]
    exact hp
end
end Go.Proofs.Yteilhjkkgdgbkaa
