
import Derived.Test.YtiobcifpebehnaaDoorI16
import Derived.Test.YtiobcifpebehnaaDoorS25
/- I17: a table alone in what is made from B on; known -/
namespace Go.Proofs.YtiobcifpebehnaaDoor
open Go.RowKit
set_option linter.unusedVariables false

/-- All that is made from B on may be the table's. -/
@[reducible] def TB (B tb : Nat) (T : TabS) (n : Nat) (w : World) : Prop := Tb B (fun k => B ≤ k) tb T n w
theorem Tab.mono {B B' : Nat} {w : World} (h : Tab B w) (hB : B ≤ B') : Tab B' w := fun w' hb => h w' (hb.mono hB)
theorem Tab.on {B : Nat} {w w' : World} (h : Tab B w) (hb : Below B w w') : Tab B w' := Lib.TabBelow.on h hb
theorem Tb.cut {B : Nat} {S : Nat → Prop} {tb : Nat} {T : TabS} {n : Nat} {w : World} (h : Tb B S tb T n w) : Tb B (fun k => S k ∧ k < w.heap.size) tb T n w := by
  obtain ⟨st, mb, m, sv, fv, hs, D, h⟩ := h
  exact ⟨st, mb, m, sv, fv, hs, D, h.ht, h.hst, h.good, h.hm, h.hmb, h.hsv, h.hfv, h.hrow, h.hn, ⟨h.sT, lt_of_heap h.ht⟩, ⟨h.sSt, lt_of_heap h.hst⟩, ⟨h.sMb, h.hmb.lt⟩, fun g hg => ⟨h.sSv g hg, own_lt7 h.hsv hg⟩, fun g hg => ⟨h.sFv g hg, own_lt7 h.hfv hg⟩,
    fun i x hx g hg => ⟨h.sRow i x hx g hg, own_lt7 (h.hrow i x hx) hg⟩, fun k hk => h.sB k hk.1, h.hB, h.ids, h.ok, h.le⟩
def AddB (B tb : Nat) (T : TabS) (n : Nat) (x : List Att) (w : World) (e : Ending) (w' : World) : Prop :=
  (may5 T.ks x ≠ 0 ∧ e = .returned (.tuple #[.int .i64 0, .int .i64 (may5 T.ks x)]) ∧ TB B tb T n w' ∧ Below B w w') ∨
  (may5 T.ks x = 0 ∧ e = .returned (.tuple #[.int .i64 (T.idOf x : Nat), .int .i64 0]) ∧ TB B tb (T.add x) (n + 1) w' ∧ Below B w w')
theorem addB {B tb : Nat} {T : TabS} {n : Nat} (v : Value) (x : List Att) (w0 w : World) (h : TB B tb T n w0) (hb : Below w0.heap.size w0 w) (hv : Arow w v x) (hW : ∀ a ∈ x, AttW a) (hn : n ≤ 1000000) (htab : Tab B w) (ho : Outs (fun k => B ≤ k ∧ k < w0.heap.size) v) :
    Calls Tryd.prog 14 #[.pointer (some ⟨tb, 0, none⟩), v] w (AddB B tb T n x w) := by
  have hB := h.hB
  have hBw : B ≤ w.heap.size := Nat.le_trans hB hb.size
  refine (add7_any v x w (h.cut.below hb) hv hW hn htab ho).mono fun e w' hP => ?_
  rcases hP with ⟨p1, p2, p3, p4⟩ | ⟨p1, p2, p3, p4⟩
  · exact .inl ⟨p1, p2, p3.mono (fun k hk => hk.1) (fun k hk => hk), p4.mono hBw⟩
  · exact .inr ⟨p1, p2, p3.mono (fun k hk => by rcases hk with hk | hk; exact hk.1; show B ≤ k; omega) (fun k hk => hk), p4.below (fun k hk => hk.1) hBw⟩
def FreeB (B tb : Nat) (T : TabS) (n : Nat) (id : Int) (w : World) (e : Ending) (w' : World) : Prop :=
  (T.has id = true ∧ e = .returned (.int .i64 0) ∧ TB B tb (T.less id.toNat) (n + 1) w' ∧ Below B w w') ∨ (T.has id = false ∧ e = .returned (.int .i64 5) ∧ w' = w)
theorem freeB {B tb : Nat} {T : TabS} {n : Nat} (id : Int) (w : World) (h : TB B tb T n w) (hn : n ≤ 1000000) (htab : Tab B w) :
    Calls Tryd.prog 16 #[.pointer (some ⟨tb, 0, none⟩), .int .i64 id] w (FreeB B tb T n id w) := by
  have hB := h.hB
  refine (free_any id w h hn htab).mono fun e w' hP => ?_
  rcases hP with ⟨p1, p2, p3, p4⟩ | hP
  · exact .inl ⟨p1, p2, p3.mono (fun k hk => by rcases hk with hk | hk; exact hk; show B ≤ k; omega) (fun k hk => hk), p4.below (fun k hk => hk) hB⟩
  · exact .inr hP
theorem addB_ok {B tb : Nat} {T : TabS} {n : Nat} (v : Value) (x : List Att) (w0 w : World) (h : TB B tb T n w0) (hb : Below w0.heap.size w0 w) (hv : Arow w v x) (hW : ∀ a ∈ x, AttW a) (hn : n ≤ 1000000) (htab : Tab B w) (ho : Outs (fun k => B ≤ k ∧ k < w0.heap.size) v) (hm : may5 T.ks x = 0) {i : Nat} (hi : T.idOf x = i) :
    Calls Tryd.prog 14 #[.pointer (some ⟨tb, 0, none⟩), v] w fun e w' => e = .returned (.tuple #[.int .i64 (i : Nat), .int .i64 0]) ∧ TB B tb (T.add x) (n + 1) w' ∧ Below B w w' := by
  refine (addB v x w0 w h hb hv hW hn htab ho).mono fun e w' hP => ?_
  rcases hP with ⟨p1, -⟩ | ⟨-, p2, p3⟩
  · exact absurd hm p1
  · rw [hi] at p2; exact ⟨p2, p3⟩
theorem freeB_ok {B tb : Nat} {T : TabS} {n : Nat} (i : Nat) (w : World) (h : TB B tb T n w) (hn : n ≤ 1000000) (htab : Tab B w) (hh : T.has (i : Nat) = true) :
    Calls Tryd.prog 16 #[.pointer (some ⟨tb, 0, none⟩), .int .i64 (i : Nat)] w fun e w' => e = .returned (.int .i64 0) ∧ TB B tb (T.less i) (n + 1) w' ∧ Below B w w' := by
  refine (freeB (i : Nat) w h hn htab).mono fun e w' hP => ?_
  rcases hP with ⟨-, p2, p3, p4⟩ | ⟨p1, -⟩
  · rw [Int.toNat_natCast] at p3; exact ⟨p2, p3, p4⟩
  · rw [hh] at p1; cases p1
theorem freeB_no {B tb : Nat} {T : TabS} {n : Nat} (id : Int) (w : World) (h : TB B tb T n w) (hn : n ≤ 1000000) (htab : Tab B w) (hh : T.has id = false) :
    Calls Tryd.prog 16 #[.pointer (some ⟨tb, 0, none⟩), .int .i64 id] w fun e w' => e = .returned (.int .i64 5) ∧ w' = w := by
  refine (freeB id w h hn htab).mono fun e w' hP => ?_
  rcases hP with ⟨p1, -⟩ | ⟨-, p2, p3⟩
  · rw [hh] at p1; cases p1
  · exact ⟨p2, p3⟩
def HoldB (B tb : Nat) (T : TabS) (n : Nat) (id : Int) (w : World) (e : Ending) (w' : World) : Prop :=
  (T.has id = true ∧ e = .returned (.int .i64 0) ∧ TB B tb (T.bump id.toNat) (n + 1) w' ∧ Below B w w') ∨ (T.has id = false ∧ e = .returned (.int .i64 5) ∧ w' = w)
theorem holdB {B tb : Nat} {T : TabS} {n : Nat} (id : Int) (w : World) (h : TB B tb T n w) (hn : n ≤ 1000000) :
    Calls Tryd.prog 18 #[.pointer (some ⟨tb, 0, none⟩), .int .i64 id] w (HoldB B tb T n id w) := by
  have hB := h.hB
  refine (hold_any id w h hn).mono fun e w' hP => ?_
  rcases hP with ⟨p1, p2, p3, p4⟩ | hP
  · exact .inl ⟨p1, p2, p3, p4.below (fun k hk => hk) hB⟩
  · exact .inr hP
theorem lenB {B tb : Nat} {S : Nat → Prop} {T : TabS} {n : Nat} (w : World) (h : Tb B S tb T n w) : Calls Tryd.prog 24 #[.pointer (some ⟨tb, 0, none⟩)] w fun e w' => e = .returned (.int .i64 (T.len : Nat)) ∧ w' = w := by
  obtain ⟨st, mb, m, sv, fv, hs, D, h⟩ := h
  exact len7_any w h
theorem heldB {B tb : Nat} {S : Nat → Prop} {T : TabS} {n : Nat} (id : Int) (w : World) (h : Tb B S tb T n w) (hn : n ≤ 1000000) : Calls Tryd.prog 23 #[.pointer (some ⟨tb, 0, none⟩), .int .i64 id] w fun e w' => e = .returned (.int .i64 (heldI T id)) ∧ w' = w := by
  obtain ⟨st, mb, m, sv, fv, hs, D, h⟩ := h
  exact held_any id w h hn
theorem setB {B tb : Nat} {S : Nat → Prop} {T : TabS} {n : Nat} (id : Int) (w : World) (h : Tb B S tb T n w) (hn : n ≤ 1000000) : Calls Tryd.prog 21 #[.pointer (some ⟨tb, 0, none⟩), .int .i64 id] w (SetP T id w) := by
  obtain ⟨st, mb, m, sv, fv, hs, D, h⟩ := h
  exact set7_any id w h hn

/-- A set of one flag. -/
@[reducible] def flagA (n : Int) : Att := ⟨1, 1, n, 0, ⟨#[]⟩⟩
theorem flags_any (n : Int) (w : World) : Calls Tryd.prog 26 #[.int .i64 n] w fun e w' => ∃ b, w.heap.size ≤ b ∧ e = .returned (.slice (some ⟨b, 0, none⟩) 1 1) ∧ Arow w' (.slice (some ⟨b, 0, none⟩) 1 1) [flagA n] ∧ Below w.heap.size w w' := by
  have hR := row_new0 w (flagA n) 47
  have hB := (Below.refl w.heap.size w).alloc (Nat.le_refl _) (.cells (aca (flagA n)) 47)
  go_enter Tryd.func26, Tryd.ntmps26
  go_wp2
  go_ret
  exact ⟨_, Nat.le_refl _, rfl, hR, hB⟩
end Go.Proofs.YtiobcifpebehnaaDoor
