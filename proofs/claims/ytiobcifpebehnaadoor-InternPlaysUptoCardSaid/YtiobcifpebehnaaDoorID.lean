
import Derived.Test.YtiobcifpebehnaaDoorI15
import Derived.Test.YtiobcifpebehnaaDoorS25
/- I16 -/
/- I16: Add, whatever the set -/
namespace Go.Proofs.YtiobcifpebehnaaDoor
open Go.RowKit
set_option linter.unusedVariables false

theorem add7_any {B : Nat} {S : Nat → Prop} {tb : Nat} {T : TabS} {n : Nat} (v : Value) (x : List Att) (w : World) (h : Tb B S tb T n w) (hv : Arow w v x) (hW : ∀ a ∈ x, AttW a) (hn : n ≤ 1000000) (htab : Tab B w) (hvS : Outs S v) :
    Calls Tryd.prog 14 #[.pointer (some ⟨tb, 0, none⟩), v] w (AddP B S tb T n x w) := by
  by_cases hm : may5 T.ks x = 0
  · cases hl : T.look x with
    | some i => exact add_there v x w h hv hW hm hn htab hl
    | none => exact add_new v x w h hv hW hm hn htab hl hvS
  · exact add_bad v x w h hv hW hm

/-- What lies below B lies outside of what is made from B on. -/
theorem outs_below {α : Type} {C : Cel α} {B : Nat} {S : Nat → Prop} {w : World} {v : Value} {x : List α} (hv : Row C w v x) (hB : w.heap.size ≤ B) (hS : ∀ k, S k → B ≤ k) : Outs S v ∨ x = [] := by
  rcases hv with ⟨a, cap, rfl, rfl, -⟩ | ⟨b, off, cap, rfl, h0, h1, h2, h3⟩
  · exact .inr rfl
  · refine .inl fun b' o l c e hs => ?_
    injection e with e
    injection e with e
    injection e with e
    subst e
    have := hS _ hs
    have hp : 0 < (fl C x).length := by rw [fl_len]; exact Nat.mul_pos h0 C.pos
    have := World.block_lt_of_cell? w _ (h3 0 _ (List.getElem?_eq_getElem hp))
    simp at this
    omega
end Go.Proofs.YtiobcifpebehnaaDoor

/- I17 -/
/- I17: a table alone in what is made from B on; known -/
namespace Go.Proofs.YtiobcifpebehnaaDoor
open Go.RowKit
set_option linter.unusedVariables false

/-- All that is made from B on may be the table's. -/
@[reducible] def TB (B tb : Nat) (T : TabS) (n : Nat) (w : World) : Prop := Tb B (fun k => B ≤ k) tb T n w
theorem Tab.mono {B B' : Nat} {w : World} (h : Tab B w) (hB : B ≤ B') : Tab B' w := fun w' hb => h w' (hb.mono hB)
theorem Tab.on {B : Nat} {w w' : World} (h : Tab B w) (hb : Below B w w') : Tab B w' := Lib.TabBelow.on h hb
theorem Tb.cut {B : Nat} {S : Nat → Prop} {tb : Nat} {T : TabS} {n : Nat} {w : World} (h : Tb B S tb T n w) : Tb B (fun k => S k ∧ k < w.heap.size) tb T n w := by
  obtain ⟨st, mb, m, sv, fv, hs, D, h⟩ := h
  exact ⟨st, mb, m, sv, fv, hs, D, h.ht, h.hst, h.good, h.hm, h.hmb, h.hsv, h.hfv, h.hrow, h.hn, ⟨h.sT, lt_of_heap h.ht⟩, ⟨h.sSt, lt_of_heap h.hst⟩, ⟨h.sMb, h.hmb.lt⟩, fun g hg => ⟨h.sSv g hg, own_lt7 h.hsv hg⟩, fun g hg => ⟨h.sFv g hg, own_lt7 h.hfv hg⟩,
    fun i x hx g hg => ⟨h.sRow i x hx g hg, own_lt7 (h.hrow i x hx) hg⟩, fun k hk => h.sB k hk.1, h.hB, h.ids, h.ok, h.le⟩
def AddB (B tb : Nat) (T : TabS) (n : Nat) (x : List Att) (w : World) (e : Ending) (w' : World) : Prop :=
  (may5 T.ks x ≠ 0 ∧ e = .returned (.tuple #[.int .i64 0, .int .i64 (may5 T.ks x)]) ∧ TB B tb T n w' ∧ Below B w w') ∨
  (may5 T.ks x = 0 ∧ e = .returned (.tuple #[.int .i64 (T.idOf x : Nat), .int .i64 0]) ∧ TB B tb (T.add x) (n + 1) w' ∧ Below B w w')
theorem addB {B tb : Nat} {T : TabS} {n : Nat} (v : Value) (x : List Att) (w0 w : World) (h : TB B tb T n w0) (hb : Below w0.heap.size w0 w) (hv : Arow w v x) (hW : ∀ a ∈ x, AttW a) (hn : n ≤ 1000000) (htab : Tab B w) (ho : Outs (fun k => B ≤ k ∧ k < w0.heap.size) v) :
    Calls Tryd.prog 14 #[.pointer (some ⟨tb, 0, none⟩), v] w (AddB B tb T n x w) := by
  have hB := h.hB
  have hBw : B ≤ w.heap.size := Nat.le_trans hB hb.size
  refine (add7_any v x w (h.cut.below hb) hv hW hn htab ho).mono fun e w' hP => ?_
  rcases hP with ⟨p1, p2, p3, p4⟩ | ⟨p1, p2, p3, p4⟩
  · exact .inl ⟨p1, p2, p3.mono (fun k hk => hk.1) (fun k hk => hk), p4.mono hBw⟩
  · exact .inr ⟨p1, p2, p3.mono (fun k hk => by rcases hk with hk | hk; exact hk.1; show B ≤ k; omega) (fun k hk => hk), p4.below (fun k hk => hk.1) hBw⟩
def FreeB (B tb : Nat) (T : TabS) (n : Nat) (id : Int) (w : World) (e : Ending) (w' : World) : Prop :=
  (T.has id = true ∧ e = .returned (.int .i64 0) ∧ TB B tb (T.less id.toNat) (n + 1) w' ∧ Below B w w') ∨ (T.has id = false ∧ e = .returned (.int .i64 5) ∧ w' = w)
theorem freeB {B tb : Nat} {T : TabS} {n : Nat} (id : Int) (w : World) (h : TB B tb T n w) (hn : n ≤ 1000000) (htab : Tab B w) :
    Calls Tryd.prog 16 #[.pointer (some ⟨tb, 0, none⟩), .int .i64 id] w (FreeB B tb T n id w) := by
  have hB := h.hB
  refine (free_any id w h hn htab).mono fun e w' hP => ?_
  rcases hP with ⟨p1, p2, p3, p4⟩ | hP
  · exact .inl ⟨p1, p2, p3.mono (fun k hk => by rcases hk with hk | hk; exact hk; show B ≤ k; omega) (fun k hk => hk), p4.below (fun k hk => hk) hB⟩
  · exact .inr hP
theorem addB_ok {B tb : Nat} {T : TabS} {n : Nat} (v : Value) (x : List Att) (w0 w : World) (h : TB B tb T n w0) (hb : Below w0.heap.size w0 w) (hv : Arow w v x) (hW : ∀ a ∈ x, AttW a) (hn : n ≤ 1000000) (htab : Tab B w) (ho : Outs (fun k => B ≤ k ∧ k < w0.heap.size) v) (hm : may5 T.ks x = 0) {i : Nat} (hi : T.idOf x = i) :
    Calls Tryd.prog 14 #[.pointer (some ⟨tb, 0, none⟩), v] w fun e w' => e = .returned (.tuple #[.int .i64 (i : Nat), .int .i64 0]) ∧ TB B tb (T.add x) (n + 1) w' ∧ Below B w w' := by
  refine (addB v x w0 w h hb hv hW hn htab ho).mono fun e w' hP => ?_
  rcases hP with ⟨p1, -⟩ | ⟨-, p2, p3⟩
  · exact absurd hm p1
  · rw [hi] at p2; exact ⟨p2, p3⟩
theorem freeB_ok {B tb : Nat} {T : TabS} {n : Nat} (i : Nat) (w : World) (h : TB B tb T n w) (hn : n ≤ 1000000) (htab : Tab B w) (hh : T.has (i : Nat) = true) :
    Calls Tryd.prog 16 #[.pointer (some ⟨tb, 0, none⟩), .int .i64 (i : Nat)] w fun e w' => e = .returned (.int .i64 0) ∧ TB B tb (T.less i) (n + 1) w' ∧ Below B w w' := by
  refine (freeB (i : Nat) w h hn htab).mono fun e w' hP => ?_
  rcases hP with ⟨-, p2, p3, p4⟩ | ⟨p1, -⟩
  · rw [Int.toNat_natCast] at p3; exact ⟨p2, p3, p4⟩
  · rw [hh] at p1; cases p1
theorem freeB_no {B tb : Nat} {T : TabS} {n : Nat} (id : Int) (w : World) (h : TB B tb T n w) (hn : n ≤ 1000000) (htab : Tab B w) (hh : T.has id = false) :
    Calls Tryd.prog 16 #[.pointer (some ⟨tb, 0, none⟩), .int .i64 id] w fun e w' => e = .returned (.int .i64 5) ∧ w' = w := by
  refine (freeB id w h hn htab).mono fun e w' hP => ?_
  rcases hP with ⟨p1, -⟩ | ⟨-, p2, p3⟩
  · rw [hh] at p1; cases p1
  · exact ⟨p2, p3⟩
def HoldB (B tb : Nat) (T : TabS) (n : Nat) (id : Int) (w : World) (e : Ending) (w' : World) : Prop :=
  (T.has id = true ∧ e = .returned (.int .i64 0) ∧ TB B tb (T.bump id.toNat) (n + 1) w' ∧ Below B w w') ∨ (T.has id = false ∧ e = .returned (.int .i64 5) ∧ w' = w)
theorem holdB {B tb : Nat} {T : TabS} {n : Nat} (id : Int) (w : World) (h : TB B tb T n w) (hn : n ≤ 1000000) :
    Calls Tryd.prog 18 #[.pointer (some ⟨tb, 0, none⟩), .int .i64 id] w (HoldB B tb T n id w) := by
  have hB := h.hB
  refine (hold_any id w h hn).mono fun e w' hP => ?_
  rcases hP with ⟨p1, p2, p3, p4⟩ | hP
  · exact .inl ⟨p1, p2, p3, p4.below (fun k hk => hk) hB⟩
  · exact .inr hP
theorem lenB {B tb : Nat} {S : Nat → Prop} {T : TabS} {n : Nat} (w : World) (h : Tb B S tb T n w) : Calls Tryd.prog 24 #[.pointer (some ⟨tb, 0, none⟩)] w fun e w' => e = .returned (.int .i64 (T.len : Nat)) ∧ w' = w := by
  obtain ⟨st, mb, m, sv, fv, hs, D, h⟩ := h
  exact len7_any w h
theorem heldB {B tb : Nat} {S : Nat → Prop} {T : TabS} {n : Nat} (id : Int) (w : World) (h : Tb B S tb T n w) (hn : n ≤ 1000000) : Calls Tryd.prog 23 #[.pointer (some ⟨tb, 0, none⟩), .int .i64 id] w fun e w' => e = .returned (.int .i64 (heldI T id)) ∧ w' = w := by
  obtain ⟨st, mb, m, sv, fv, hs, D, h⟩ := h
  exact held_any id w h hn
theorem setB {B tb : Nat} {S : Nat → Prop} {T : TabS} {n : Nat} (id : Int) (w : World) (h : Tb B S tb T n w) (hn : n ≤ 1000000) : Calls Tryd.prog 21 #[.pointer (some ⟨tb, 0, none⟩), .int .i64 id] w (SetP T id w) := by
  obtain ⟨st, mb, m, sv, fv, hs, D, h⟩ := h
  exact set7_any id w h hn

/-- A set of one flag. -/
@[reducible] def flagA (n : Int) : Att := ⟨1, 1, n, 0, ⟨#[]⟩⟩
theorem flags_any (n : Int) (w : World) : Calls Tryd.prog 26 #[.int .i64 n] w fun e w' => ∃ b, w.heap.size ≤ b ∧ e = .returned (.slice (some ⟨b, 0, none⟩) 1 1) ∧ Arow w' (.slice (some ⟨b, 0, none⟩) 1 1) [flagA n] ∧ Below w.heap.size w w' := by
  have hR := row_new0 w (flagA n) 47
  have hB := (Below.refl w.heap.size w).alloc (Nat.le_refl _) (.cells (aca (flagA n)) 47)
  go_enter Tryd.func26, Tryd.ntmps26
  go_wp2
  go_ret
  exact ⟨_, Nat.le_refl _, rfl, hR, hB⟩
end Go.Proofs.YtiobcifpebehnaaDoor

/- I18 -/
/- I18: known -/
namespace Go.Proofs.YtiobcifpebehnaaDoor
open Go.RowKit
set_option linter.unusedVariables false

@[reducible] def flagK : Key := ⟨1, false, 1, false, false, 0⟩
def kT0 : TabS := newT [flagK]
def kT1 : TabS := kT0.add []
def kT2 : TabS := kT1.add [flagA 1]
def kT3 : TabS := kT2.add [flagA 1]
def kT4 : TabS := kT3.add [flagA 0]
def kT5 : TabS := kT4.less 1
def kT6 : TabS := kT5.less 1
theorem kGood : mayKs [flagK] := by
  refine ⟨by decide, fun k hk => ?_, by simp [Apart]⟩
  obtain rfl := List.mem_singleton.1 hk
  rfl
theorem flagW (n : Int) (h : n = 0 ∨ n = 1) : ∀ a ∈ [flagA n], AttW a := by
  intro a ha
  obtain rfl := List.mem_singleton.1 ha
  rcases h with rfl | rfl <;> exact ⟨by decide, by decide, by decide, by decide, by decide⟩
theorem keyW1 : ∀ k ∈ [flagK], KeyW k := by
  intro k hk
  obtain rfl := List.mem_singleton.1 hk
  exact ⟨by decide, by decide, by decide⟩
theorem k_may0 : may5 [flagK] [] = 0 := by kernel_rfl
theorem k_may1 : may5 [flagK] [flagA 1] = 0 := by kernel_rfl
theorem k_may2 : may5 [flagK] [flagA 0] = 0 := by kernel_rfl
theorem k_ks1 : kT1.ks = [flagK] := by kernel_rfl
theorem k_ks2 : kT2.ks = [flagK] := by kernel_rfl
theorem k_ks3 : kT3.ks = [flagK] := by kernel_rfl
theorem k_id0 : kT0.idOf [] = 0 := by kernel_rfl
theorem k_id1 : kT1.idOf [flagA 1] = 1 := by kernel_rfl
theorem k_id2 : kT2.idOf [flagA 1] = 1 := by kernel_rfl
theorem k_id3 : kT3.idOf [flagA 0] = 2 := by kernel_rfl
theorem k_len4 : kT4.len = 3 := by kernel_rfl
theorem k_has4 : kT4.has 1 = true := by kernel_rfl
theorem k_has5 : kT5.has 1 = true := by kernel_rfl
theorem k_has6 : kT6.has 1 = false := by kernel_rfl
theorem k_len6 : kT6.len = 2 := by kernel_rfl
theorem k_held6 : heldI kT6 2 = 1 := by kernel_rfl

theorem outs_new {S : Nat → Prop} {b l c : Nat} {o : Nat} (h : ¬ S b) : Outs S (.slice (some ⟨b, o, none⟩) l c) := fun b' o' l' c' e => by
  injection e with e
  injection e with e
  injection e with e
  subst e
  exact h
theorem outs_nil {S : Nat → Prop} {l c : Nat} : Outs S (.slice none l c) := fun b' o' l' c' e => by
  injection e with e
  cases e

set_option maxRecDepth 100000 in
set_option maxHeartbeats 2000000 in
theorem known7_any (w : World) (ht : Tab w.heap.size w) :
    Calls Tryd.prog 11 #[] w fun e w' => e = .returned (.bool true) ∧ Below w.heap.size w w' := by
  have hb0 := (Below.refl w.heap.size w).alloc (Nat.le_refl _) (.cells (flat [flagK]).toArray 67)
  have HN := Lib.hid (new_yes (krow_built w 67 [flagK] (by decide)) keyW1 kGood)
  have hkf : (flat [flagK]).toArray = #[.int .i64 1, .bool false, .int .u8 1, .bool false, .bool false, .int .i64 0] := rfl
  rw [hkf] at HN hb0
  have HB0 := Lib.hid hb0
  have HT := Lib.hid ht
  clear hkf hb0 ht
  go_enter Tryd.func11, Tryd.ntmps11
  go_wp2_with (go_at_call 9; refine HN.out.mono ?_; rintro e w1 ⟨s, rfl, hs, hb1⟩; refine Hid.out ?_)
  have HS := Lib.hid hs
  have B1 := Lib.hid (below_add HB0.out hb1 HB0.out.size)
  clear hs hb1
  refine Lib.hid ?_
  go_wp2_with (go_at_call 12; refine (new7_any _ _ w1 HS.out).mono ?_; rintro e w2 ⟨tb, rfl, hT, hb2⟩; refine Hid.out ?_)
  obtain ⟨B, hBB⟩ : ∃ B, w1.heap.size = B := ⟨_, rfl⟩
  rw [hBB] at hT hb2
  have hwB : w.heap.size ≤ B := by rw [← hBB]; exact B1.out.size
  have HT2 := Lib.hid (show Tab B w2 from ((HT.out.on B1.out).mono hwB).on hb2)
  have B2 := Lib.hid (B1.out.trans (hb2.mono hwB))
  have T0 := Lib.hid (show TB B tb kT0 0 w2 from hT)
  have HWB := Lib.hid hwB
  clear hT hb2 hBB hwB HS B1 HN HB0
  refine Lib.hid ?_
  go_wp2_with (go_at_call 14; refine (addB_ok _ [] w2 w2 T0.out (Below.refl _ _) (Row.nil _) (by simp) (by omega) HT2.out outs_nil k_may0 k_id0).mono ?_; rintro e w3 ⟨rfl, hT, hb⟩; refine Hid.out ?_)
  have T1 := Lib.hid (show TB B tb kT1 1 w3 from hT)
  have HT3 := Lib.hid (HT2.out.on hb)
  have B3 := Lib.hid (B2.out.trans (hb.mono HWB.out))
  clear hT hb T0 HT2 B2
  refine Lib.hid ?_
  go_wp2_with (go_at_call 26; refine (flags_any 1 w3).mono ?_; rintro e w4 ⟨b4, hlt, rfl, hR, hb⟩; refine Hid.out ?_)
  have HR := Lib.hid hR
  have HL := Lib.hid hlt
  have HBf := Lib.hid hb
  clear hR hlt hb
  refine Lib.hid ?_
  go_wp2_with (go_at_call 14; refine (addB_ok _ [flagA 1] w3 w4 T1.out HBf.out HR.out (flagW 1 (by decide)) (by omega) (HT3.out.on (HBf.out.mono T1.out.hB)) (outs_new (fun hk => by have := HL.out; omega)) (by rw [k_ks1]; exact k_may1) k_id1).mono ?_; rintro e w5 ⟨rfl, hT, hb⟩; refine Hid.out ?_)
  have T2 := Lib.hid (show TB B tb kT2 2 w5 from hT)
  have HT5 := Lib.hid ((HT3.out.on (HBf.out.mono T1.out.hB)).on hb)
  have B5 := Lib.hid ((B3.out.trans (HBf.out.mono B3.out.size)).trans (hb.mono HWB.out))
  clear hT hb T1 HT3 B3 HR HL HBf
  refine Lib.hid ?_
  go_wp2_with (go_at_call 26; refine (flags_any 1 w5).mono ?_; rintro e w6 ⟨b6, hlt, rfl, hR, hb⟩; refine Hid.out ?_)
  have HR := Lib.hid hR
  have HL := Lib.hid hlt
  have HBf := Lib.hid hb
  clear hR hlt hb
  refine Lib.hid ?_
  go_wp2_with (go_at_call 14; refine (addB_ok _ [flagA 1] w5 w6 T2.out HBf.out HR.out (flagW 1 (by decide)) (by omega) (HT5.out.on (HBf.out.mono T2.out.hB)) (outs_new (fun hk => by have := HL.out; omega)) (by rw [k_ks2]; exact k_may1) k_id2).mono ?_; rintro e w7 ⟨rfl, hT, hb⟩; refine Hid.out ?_)
  have T3 := Lib.hid (show TB B tb kT3 3 w7 from hT)
  have HT7 := Lib.hid ((HT5.out.on (HBf.out.mono T2.out.hB)).on hb)
  have B7 := Lib.hid ((B5.out.trans (HBf.out.mono B5.out.size)).trans (hb.mono HWB.out))
  clear hT hb T2 HT5 B5 HR HL HBf
  refine Lib.hid ?_
  go_wp2_with (go_at_call 26; refine (flags_any 0 w7).mono ?_; rintro e w8 ⟨b8, hlt, rfl, hR, hb⟩; refine Hid.out ?_)
  have HR := Lib.hid hR
  have HL := Lib.hid hlt
  have HBf := Lib.hid hb
  clear hR hlt hb
  refine Lib.hid ?_
  go_wp2_with (go_at_call 14; refine (addB_ok _ [flagA 0] w7 w8 T3.out HBf.out HR.out (flagW 0 (by decide)) (by omega) (HT7.out.on (HBf.out.mono T3.out.hB)) (outs_new (fun hk => by have := HL.out; omega)) (by rw [k_ks3]; exact k_may2) k_id3).mono ?_; rintro e w9 ⟨rfl, hT, hb⟩; refine Hid.out ?_)
  have T4 := Lib.hid (show TB B tb kT4 4 w9 from hT)
  have HT9 := Lib.hid ((HT7.out.on (HBf.out.mono T3.out.hB)).on hb)
  have B9 := Lib.hid ((B7.out.trans (HBf.out.mono B7.out.size)).trans (hb.mono HWB.out))
  clear hT hb T3 HT7 B7 HR HL HBf
  refine Lib.hid ?_
  go_wp2_with (go_at_call 24; refine (lenB w9 T4.out).mono ?_; rintro e w10 ⟨rfl, rfl⟩; rw [k_len4]; refine Hid.out ?_)
  refine Lib.hid ?_
  go_wp2_with (go_at_call 16; refine (freeB_ok 1 _ T4.out (by omega) HT9.out k_has4).mono ?_; rintro e w11 ⟨rfl, hT, hb⟩; refine Hid.out ?_)
  have T5 := Lib.hid (show TB B tb kT5 5 w11 from hT)
  have HT11 := Lib.hid (HT9.out.on hb)
  have B11 := Lib.hid (B9.out.trans (hb.mono HWB.out))
  clear hT hb T4 HT9 B9
  refine Lib.hid ?_
  go_wp2_with (go_at_call 16; refine (freeB_ok 1 _ T5.out (by omega) HT11.out k_has5).mono ?_; rintro e w12 ⟨rfl, hT, hb⟩; refine Hid.out ?_)
  have T6 := Lib.hid (show TB B tb kT6 6 w12 from hT)
  have HT12 := Lib.hid (HT11.out.on hb)
  have B12 := Lib.hid (B11.out.trans (hb.mono HWB.out))
  clear hT hb T5 HT11 B11
  refine Lib.hid ?_
  go_wp2_with (go_at_call 16; refine (freeB_no 1 _ T6.out (by omega) HT12.out k_has6).mono ?_; rintro e w13 ⟨rfl, rfl⟩; refine Hid.out ?_)
  refine Lib.hid ?_
  go_wp2_with (go_at_call 24; refine (lenB _ T6.out).mono ?_; rintro e w14 ⟨rfl, rfl⟩; rw [k_len6]; refine Hid.out ?_)
  refine Lib.hid ?_
  go_wp2_with (go_at_call 23; refine (heldB 2 _ T6.out (by omega)).mono ?_; rintro e w15 ⟨rfl, rfl⟩; rw [k_held6]; refine Hid.out ?_)
  refine Lib.hid ?_
  go_wp2
  go_ret
  exact ⟨rfl, B12.out⟩
end Go.Proofs.YtiobcifpebehnaaDoor
