
import Derived.Test.YteilhjkkgdgbkaaNJ
import Derived.Deep.AppendLies
import Derived.RegionTactic
/- NK: the reference's Take and Drop -/
namespace Go.Proofs.Yteilhjkkgdgbkaa
open Go.RowKit
set_option linter.unusedVariables false

theorem info_i64 : ∃ i, Try.prog.info? 2 = some i ∧ i.zero = some (.int .i64 0) ∧ i.size = 1 ∧ i.bytes = 8 := ⟨_, rfl, rfl, rfl, rfl⟩
theorem info_bool : ∃ i, Try.prog.info? 4 = some i ∧ i.zero = some (.bool false) ∧ i.size = 1 ∧ i.bytes = 1 := ⟨_, rfl, rfl, rfl, rfl⟩
@[reducible] def L1 (rb lb : Nat) (lv : Value) (k i : Nat) (w : World) : Prop := w.cell? ⟨rb, 2, none⟩ = some lv ∧ w.cell? ⟨lb, k, none⟩ = some (.int .i64 (i : Nat))
section
variable {B : Nat} {U : Nat → Prop} {rb : Nat} {xv tv lv : Value} {X : List Int} {T : List Bool} {A : ArS Int}
set_option maxHeartbeats 2000000 in
/-- Take, where a place is free. -/
theorem rtake_old (x : Int) (w : World) {i k : Nat} {f0 : List Nat} (h : RefM B U rb xv tv lv X T (f0 ++ [i]) w) (hk : f0.length = k) (hiX : i < X.length) (hiT : i < T.length) (hkb : k ≤ 1000000) :
    Calls Try.prog 11 #[.pointer (some ⟨rb, 0, none⟩), .int .i64 x] w fun e w' => e = .returned (.int .i64 (i : Nat)) ∧ (∃ lv', RefM B (fun k => U k ∨ w.heap.size ≤ k) rb xv tv lv' (X.set i x) (T.set i true) f0 w') ∧ Off U w w' := by
  have hfl : (f0 ++ [i]).length = k + 1 := by rw [List.length_append, hk]; rfl
  obtain ⟨xg, xcap, rfl, -, -, hxg, hxf, hxat⟩ := own_at rfl h.hx (by omega)
  obtain ⟨tg, tcap, rfl, -, -, htg, htf, htat⟩ := own_at rfl h.ht (by omega)
  have hlen : (f0 ++ [i]).length = (f0 ++ [i]).length := rfl
  obtain ⟨lb, lcap, rfl, p1, p2, hlb, -, p3⟩ := own_at (C := natC) rfl h.hl (by omega)
  have hsB : ∀ k, U k ∨ w.heap.size ≤ k → B ≤ k := fun k hk => by rcases hk with hk | hk; exact h.sB k hk; have := h.hB; omega
  have h0 := h.mono (U' := fun k => U k ∨ w.heap.size ≤ k) (fun k hk => .inl hk) hsB
  rw [hfl] at p1 h0
  have hck : w.cell? ⟨lb, k, none⟩ = some (.int .i64 (i : Nat)) := p3 k (by omega) _ (by
    show [Value.int .i64 (((f0 ++ [i])[k]'(by omega) : Nat) : Int)] = _
    have : (f0 ++ [i])[k]'(by omega) = i := by rw [List.getElem_append_right (by omega)]; simp
    rw [this])
  obtain ⟨c0, c1, c2⟩ := h0.cells
  have hbd : Below w.heap.size w w.drew := (Below.refl _ _).drew
  have hS0 : L1 rb lb (.slice (some ⟨lb, 0, none⟩) (k + 1) lcap) k i w.drew := ⟨(h0.below hbd).cells.2.2, hck⟩
  have H0 := Lib.hid h0
  have HB := Lib.hid hbd
  have hk0 : (0 : Int) ≤ (k : Int) := by omega
  have hk1 : (k : Int) < (k : Int) + 1 := by omega
  have hk3 : (k : Int) ≤ (lcap : Int) := by omega
  have hwr : IntKind.i64.wrap (k : Int) = (k : Int) := by rw [IntKind.wrap_i64]; omega
  have hwr2 : IntKind.i64.wrap ((k : Int) + 1 - 1) = (k : Int) := by rw [IntKind.wrap_i64]; omega
  obtain ⟨i0, ki, kz0, kz1, kz2⟩ := info_in_6
  clear h h0 hxat htat hxf htf p3 hck hbd c0 c1 hlen hfl p1 p2
  go_enter Try.func11, Try.ntmps11
  go_wp2_with fail
  go_region_held3 (fun w' => L1 rb lb (.slice (some ⟨lb, 0, none⟩) (k + 1) lcap) k i w') (first | assumption | trivial) (fail)
  generalize hW : w.drew = W at *
  have M2 := Lib.hid (H0.out.below HB.out : RefM B (fun k => U k ∨ w.heap.size ≤ k) rb (.slice (some ⟨xg, 0, none⟩) X.length xcap) (.slice (some ⟨tg, 0, none⟩) T.length tcap) (.slice (some ⟨lb, 0, none⟩) (k + 1) lcap) X T (f0 ++ [i]) W)
  have O2 := Lib.hid (Off.of_below HB.out : Off (fun k => U k ∨ w.heap.size ≤ k) w W)
  have hbd : Below W.heap.size W W.drew := (Below.refl _ _).drew
  have hbal := hbd.alloc (Nat.le_refl _) (.cells #[] 3)
  have hd3 := (M2.out.below hbd).cells.2.2
  have hd5 : (W.alloc (.cells #[] 3)).drew.cell? ⟨rb, 2, none⟩ = some (.slice (some ⟨lb, 0, none⟩) (k + 1) lcap) := (M2.out.below hbal).cells.2.2
  have HNEWS := Lib.hid (show ∀ (j : Nat) (u : Value), (fl natC f0)[j]? = some u → (W.alloc (.cells #[] 3)).drew.cell? ((⟨lb, 0, none⟩ : Addr).add j) = some u from fun j u hu => by
    have hM := (M2.out.below hbal).hl
    rw [show (f0 ++ [i]).length = k + 1 by rw [List.length_append, hk]; rfl] at hM
    refine World.ownsRow.cells hM rfl j u ?_
    rw [fl_app, List.getElem?_append_left (List.getElem?_eq_some_iff.1 hu).1]
    exact hu)
  have HW4 := Lib.hid (fun (w4 : World) (hg : (W.alloc (.cells #[] 3)).drew.grownBy w4 (Value.slice (some ⟨W.heap.size, 0, none⟩) 0 0).ownBlock) => (show Below W.heap.size W w4 from below_add hbd (fresh_grown (w := W.drew) hg) hbd.size))
  have HC4 := Lib.hid (fun (w4 : World) (hb : Below W.heap.size W w4) => (show w4.cell? ⟨rb, 2, none⟩ = some (.slice (some ⟨lb, 0, none⟩) (k + 1) lcap) ∧ w4.frozen? ⟨rb, 2, none⟩ = false from ⟨(M2.out.below hb).cells.2.2, (M2.out.below hb).nofreeze 2⟩))
  have HOF := Lib.hid (show (W.alloc (.cells #[] 3)).drew.ownsRow W.heap.size 3 1 (.slice (some ⟨W.heap.size, 0, none⟩) 0 0) 0 [] from own_fresh7 W.drew 3 1)
  have HFL := Lib.hid (show (fl natC f0).length = k * 1 from by rw [fl_len, hk]; rfl)
  have HSZ := Lib.hid (show w.heap.size ≤ W.heap.size from O2.out.size)
  have FIN := Lib.hid (fun (v4 : Value) (w4 : World) (hb4 : Below W.heap.size W w4) (ho4 : w4.ownsRow W.heap.size 3 1 v4 f0.length (fl natC f0)) => (show RefM B (fun k => U k ∨ w.heap.size ≤ k) rb (.slice (some ⟨xg, 0, none⟩) X.length xcap) (.slice (some ⟨tg, 0, none⟩) T.length tcap) v4 X T f0 (w4.setCell ⟨rb, 2, none⟩ v4) ∧ Off (fun k => U k ∨ w.heap.size ≤ k) w (w4.setCell ⟨rb, 2, none⟩ v4) from
    ⟨(M2.out.below hb4).rL (row := none) (.inl rfl) (grown_refl _ _) (owns_mono ho4 (Nat.zero_le _)) (fun g hg => .inr (Nat.le_trans HSZ.out (own_base ho4 hg))),
      O2.out.seq ((Off.of_below hb4).seq (Off.of_grown (grown_set _) (fun g hg => by cases hg; exact M2.out.sR)))⟩))
  have HSH := Lib.hid (fun (v4 : Value) (w4 : World) (ho : w4.ownsRow W.heap.size 3 1 v4 (0 + k) ([] ++ fl natC f0)) => (show ∃ a c, v4 = .slice a k c ∧ w4.ownsRow W.heap.size 3 1 (.slice a k c) f0.length (fl natC f0) from by
    rw [Nat.zero_add, List.nil_append] at ho
    obtain ⟨a, c, e, -, -⟩ := own_shape ho
    rw [e] at ho
    exact ⟨a, c, e, by rw [hk]; exact ho⟩))
  have HIX := Lib.hid hiX
  have HIT := Lib.hid hiT
  clear hbd hbal hk hW H0 HB hS0 c2
  go_wp2_with fail
  go_cut [5] from 6 (fun s5 wr => s5 = .int .i64 (i : Nat) ∧ ∃ lv', RefM B (fun k => U k ∨ w.heap.size ≤ k) rb (.slice (some ⟨xg, 0, none⟩) X.length xcap) (.slice (some ⟨tg, 0, none⟩) T.length tcap) lv' X T f0 wr ∧ Off (fun k => U k ∨ w.heap.size ≤ k) w wr)
  case first =>
    go_region_law
      ((refine step_append_at7 (by rfl) (.tmp 25) (.tmp 36) 28 (by rfl) W.heap.size 3 i0 (.int .i64 0) 1 8 Try.underlying28 ki kz0 kz1 kz2 (by rfl) (by decide) (.slice (some ⟨W.heap.size, 0, none⟩) 0 0) 0 [] (by rfl) HOF.out ⟨lb, 0, none⟩ k lcap (fl natC f0) (by rfl) HFL.out HNEWS.out (fl_ones natC f0) (by unfold maxLen; omega) (by omega) (by simp) ?_; intro v4 w4 ho4 hg4 ha4; obtain ⟨a4, c4, e4, ho5⟩ := HSH.out v4 w4 ho4; subst e4; have hb4 := HW4.out w4 hg4; obtain ⟨hS4, k4f⟩ := HC4.out w4 hb4))
    all_goals (go_wp2; go_meet; exact ⟨rfl, _, FIN.out (.slice a4 k c4) w4 hb4 ho5⟩)
  case rest =>
    obtain ⟨rfl, lv', hM, hO⟩ := hcut
    obtain ⟨c0, c1, -⟩ := hM.cells
    obtain ⟨xg', _, e, -, -, -, hxf, hxat⟩ := own_at rfl hM.hx (by omega)
    have e1 : xg = xg' := by injection e with e1 _ _; injection e1 with e1; injection e1 with e1
    subst e1
    have cx := hxat i hiX _ rfl
    have fx := hxf i
    have hM1 := hM.pX hiX x
    obtain ⟨-, d1, -⟩ := hM1.cells
    obtain ⟨tg', _, e', -, -, -, htf, htat⟩ := own_at rfl hM1.ht (by omega)
    have e1 : tg = tg' := by injection e' with e1 _ _; injection e1 with e1; injection e1 with e1
    subst e1
    have ct := htat i hiT _ rfl
    have ft := htf i
    have FM := Lib.hid (hM1.pT hiT true)
    have FO := Lib.hid ((hO.seq (Off.of_grown (grown_set (w := wc) (g := xg) (o := i) (.int .i64 x)) (fun g hg => by cases hg; exact hM.sX _ rfl))).seq (Off.of_grown (grown_set (w := wc.setCell ⟨xg, i, none⟩ (.int .i64 x)) (g := tg) (o := i) (.bool true)) (fun g hg => by cases hg; exact hM1.sT _ rfl)))
    have ki0 : (0 : Int) ≤ (i : Int) := by omega
    have ki1 : (i : Int) < (X.length : Int) := by omega
    have ki2 : (i : Int) < (T.length : Int) := by omega
    clear hM hO hM1 hxat htat e e' hxf htf
    go_wp2
    go_ret
    exact ⟨rfl, ⟨_, FM.out⟩, Off.cut FO.out⟩
end
end Go.Proofs.Yteilhjkkgdgbkaa
