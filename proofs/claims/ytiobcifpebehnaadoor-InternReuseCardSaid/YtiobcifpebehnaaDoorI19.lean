
import Derived.Test.YtiobcifpebehnaaDoorI18
import Derived.Deep.Cut
/- I19: InternHolds -/
namespace Go.Proofs.YtiobcifpebehnaaDoor
open Go.RowKit
set_option linter.unusedVariables false

theorem hT1 (c : Int) (hc : c = 0 ∨ c = 1) : may5 kT0.ks [flagA c] = 0 ∧ kT0.idOf [flagA c] = 1 := by
  rcases hc with rfl | rfl <;> exact ⟨by kernel_rfl, by kernel_rfl⟩
/-- The table with that set, held so often. -/
def hT (c : Int) (q : Nat) : TabS := ⟨[flagK], [noEnt, ⟨[flagA c], q⟩], []⟩
theorem hT_add (c : Int) (hc : c = 0 ∨ c = 1) : kT0.add [flagA c] = hT c 1 := by
  rcases hc with rfl | rfl <;> kernel_rfl
theorem hT_bump (c : Int) (q : Nat) : (hT c q).bump 1 = hT c (q + 1) := rfl
theorem hT_has (c : Int) (q : Nat) : (hT c (q + 1)).has 1 = true := by
  unfold TabS.has
  rw [decide_eq_true_iff]
  exact .inr ⟨by decide, by simp [hT], by simp [hT, TabS.times]⟩
theorem hT_held (c : Int) (q : Nat) : heldI (hT c (q + 1)) 1 = ((q + 1 : Nat) : Int) := by
  unfold heldI
  rw [hT_has, if_pos rfl]
  rfl
theorem hT_less (c : Int) (q : Nat) : (hT c (q + 2)).less 1 = hT c (q + 1) := by
  rw [less_upd (by rintro ⟨-, h⟩; simp [hT, TabS.times] at h)]
  rfl
def hEnd : TabS := ⟨[flagK], [noEnt, noEnt], [1]⟩
theorem hT_last (c : Int) : (hT c 1).less 1 = hEnd := by
  rw [less_out (by decide) rfl]
  rfl
theorem hE_held : heldI hEnd 1 = 0 := by kernel_rfl
theorem hE_has : hEnd.has 1 = false := by kernel_rfl
theorem hE_len : hEnd.len = 1 := by kernel_rfl
theorem holdB_ok {B tb : Nat} {T : TabS} {n : Nat} (i : Nat) (w : World) (h : TB B tb T n w) (hn : n ≤ 1000000) (hh : T.has (i : Nat) = true) :
    Calls Tryd.prog 18 #[.pointer (some ⟨tb, 0, none⟩), .int .i64 (i : Nat)] w fun e w' => e = .returned (.int .i64 0) ∧ TB B tb (T.bump i) (n + 1) w' ∧ Below B w w' := by
  refine (holdB (i : Nat) w h hn).mono fun e w' hP => ?_
  rcases hP with ⟨-, p2, p3, p4⟩ | ⟨p1, -⟩
  · rw [Int.toNat_natCast] at p3; exact ⟨p2, p3, p4⟩
  · rw [hh] at p1; cases p1
theorem holdB_no {B tb : Nat} {T : TabS} {n : Nat} (id : Int) (w : World) (h : TB B tb T n w) (hn : n ≤ 1000000) (hh : T.has id = false) :
    Calls Tryd.prog 18 #[.pointer (some ⟨tb, 0, none⟩), .int .i64 id] w fun e w' => e = .returned (.int .i64 5) ∧ w' = w := by
  refine (holdB id w h hn).mono fun e w' hP => ?_
  rcases hP with ⟨p1, -⟩ | ⟨-, p2, p3⟩
  · rw [hh] at p1; cases p1
  · exact ⟨p2, p3⟩

/-- A table of one flag's schema, as the laws begin with it. -/
theorem begin_new (w w1 : World) (v : Value) (hs : Sch w1 v [flagK]) (hb : Below w.heap.size w w1) (ht : Tab w.heap.size w) :
    Calls Tryd.prog 12 #[v] w1 fun e w2 => ∃ tb, e = .returned (.pointer (some ⟨tb, 0, none⟩)) ∧ TB w1.heap.size tb kT0 0 w2 ∧ Tab w1.heap.size w2 ∧ Below w.heap.size w w2 ∧ w.heap.size ≤ w1.heap.size :=
  (new7_any _ _ w1 hs).mono fun e w2 ⟨tb, he, hT, hb2⟩ => ⟨tb, he, hT, ((ht.on hb).mono hb.size).on hb2, hb.trans (hb2.mono hb.size), hb.size⟩

/-- Where the second loop has come to. -/
def hS (c : Int) (m k : Nat) : TabS := if k = m + 1 then hEnd else hT c (m + 1 - k)
theorem hS_lt {c : Int} {m k : Nat} (h : k ≤ m) : hS c m k = hT c (m - k + 1) := by
  unfold hS
  rw [if_neg (by omega)]
  congr 1
  omega
theorem hS_end (c : Int) (m : Nat) : hS c m (m + 1) = hEnd := if_pos rfl
theorem hS_zero (c : Int) (m : Nat) : hS c m 0 = hT c (m + 1) := if_neg (by omega)
theorem hS_less {c : Int} {m k : Nat} (h : k ≤ m) : (hS c m k).less 1 = hS c m (k + 1) := by
  rw [hS_lt h]
  by_cases he : k = m
  · subst he
    rw [hS_end, Nat.sub_self]
    exact hT_last c
  · rw [hS_lt (by omega), show m - k = (m - (k + 1)) + 1 by omega]
    exact hT_less c _

/-- The second half: held so often, it is freed as often. -/
structure HoldR (w : World) (B tb : Nat) (T : TabS) (n : Nat) (wr : World) : Prop where
  t : TB B tb T n wr
  tab : Tab B wr
  bel : Below w.heap.size w wr
theorem HoldR.mk' {w : World} {B tb : Nat} {T T' : TabS} {n n' : Nat} {wr w' : World} (h : HoldR w B tb T n wr) (hB : w.heap.size ≤ B) (ht : TB B tb T' n' w') (hb : Below B wr w') : HoldR w B tb T' n' w' :=
  ⟨ht, h.tab.on hb, h.bel.trans (hb.mono hB)⟩

set_option maxRecDepth 100000 in
set_option maxHeartbeats 2000000 in
theorem holds_walk (n : Int) (flag : Bool) (w : World) (ht : Tab w.heap.size w) :
    Calls Tryd.prog 6 #[.int .i64 n, .bool flag] w fun e w' => e = .returned (.bool true) ∧ Below w.heap.size w w' := by
  have HT := Lib.hid ht
  by_cases hr : 0 ≤ n ∧ n ≤ 50
  · obtain ⟨m, rfl⟩ : ∃ m : Nat, n = m := ⟨n.toNat, by omega⟩
    have hm : m ≤ 50 := by omega
    have e1 : decide ((m : Int) < 0) = false := by rw [decide_eq_false_iff_not]; omega
    have e2 : decide (50 < (m : Int)) = false := by rw [decide_eq_false_iff_not]; omega
    have hb0 := (Below.refl w.heap.size w).alloc (Nat.le_refl _) (.cells (flat [flagK]).toArray 67)
    have HN := Lib.hid (new_yes (krow_built w 67 [flagK] (by decide)) keyW1 kGood)
    have hkf : (flat [flagK]).toArray = #[.int .i64 1, .bool false, .int .u8 1, .bool false, .bool false, .int .i64 0] := rfl
    rw [hkf] at HN hb0
    have HB0 := Lib.hid hb0
    clear hkf hb0 ht hr
    obtain ⟨c, hc, hfc⟩ : ∃ c : Int, (c = 0 ∨ c = 1) ∧ c = if flag then 1 else 0 := ⟨if flag then 1 else 0, by cases flag <;> simp, rfl⟩
    go_enter Tryd.func6, Tryd.ntmps6
    go_wp2_with (go_at_call 9; refine HN.out.mono ?_; rintro e w1 ⟨s, rfl, hs, hb1⟩; refine Hid.out ?_)
    have HS := Lib.hid hs
    have B1 := Lib.hid (below_add HB0.out hb1 HB0.out.size)
    clear hs hb1 HN HB0
    refine Lib.hid ?_
    go_wp2_with (go_at_call 12; refine (begin_new w w1 _ HS.out B1.out HT.out).mono ?_; rintro e w2 ⟨tb, rfl, hT, hTab, hb2, hsz⟩; refine Hid.out ?_)
    generalize w1.heap.size = B at *
    have R2 := Lib.hid (HoldR.mk hT hTab hb2)
    have HWB := Lib.hid hsz
    clear hT hTab hb2 hsz HS B1
    refine Lib.hid ?_
    go_wp2_with (go_at_call 26; refine (flags_any 0 w2).mono ?_; rintro e w3 ⟨b3, hlt, rfl, hR, hb⟩; refine Hid.out ?_)
    have HR := Lib.hid hR
    have HL := Lib.hid hlt
    have HBf := Lib.hid hb
    clear hR hlt hb
    refine Lib.hid ?_
    go_upto_if 34 with (fail)
    go_cut [8] from 12 (fun s8 wr => ∃ b, w2.heap.size ≤ b ∧ s8 = .slice (some ⟨b, 0, none⟩) 1 1 ∧ Arow wr (.slice (some ⟨b, 0, none⟩) 1 1) [flagA c] ∧ Below w2.heap.size w2 wr)
    case first =>
      cases flag with
      | false =>
        obtain rfl : c = 0 := hfc
        go_wp2
        go_meet
        exact ⟨b3, HL.out, rfl, HR.out, HBf.out⟩
      | true =>
        obtain rfl : c = 1 := hfc
        go_wp2_with (go_at_call 26; refine (flags_any 1 w3).mono ?_; rintro e w4 ⟨b4, hlt, rfl, hR, hb⟩; refine Hid.out ?_)
        have HX := Lib.hid (show w2.heap.size ≤ b4 ∧ Arow w4 (.slice (some ⟨b4, 0, none⟩) 1 1) [flagA 1] ∧ Below w2.heap.size w2 w4 from ⟨Nat.le_trans HBf.out.size hlt, hR, below_add HBf.out hb HBf.out.size⟩)
        clear hlt hR hb
        refine Lib.hid ?_
        go_wp2
        go_meet
        exact ⟨b4, HX.out.1, rfl, HX.out.2.1, HX.out.2.2⟩
    case rest =>
      obtain ⟨b, hb, rfl, hR4, hb4⟩ := hcut
      have HA := Lib.hid (addB_ok _ [flagA c] w2 wc R2.out.t hb4 hR4 (flagW c hc) (by omega) (R2.out.tab.on (hb4.mono R2.out.t.hB)) (outs_new (fun hk => by omega)) (hT1 c hc).1 (hT1 c hc).2)
      rw [hT_add c hc] at HA
      have R4 := Lib.hid (show Tab B wc ∧ Below w.heap.size w wc from ⟨R2.out.tab.on (hb4.mono R2.out.t.hB), below_add R2.out.bel hb4 R2.out.bel.size⟩)
      clear hb hR4 hb4 R2 HR HL HBf
      go_wp2_with (go_at_call 14; refine HA.out.mono ?_; rintro e w5 ⟨rfl, hT5, hb5⟩; refine Hid.out ?_)
      have R5 := Lib.hid (show HoldR w B tb (hT c 1) 1 w5 from ⟨hT5, R4.out.1.on hb5, R4.out.2.trans (hb5.mono HWB.out)⟩)
      clear hT5 hb5 R4 HA
      refine Lib.hid ?_
      go_wp2
      go_loopw [49] (fun s49 wr => ∃ k : Nat, k ≤ m ∧ s49 = .int .i64 k ∧ HoldR w B tb (hT c (k + 1)) (k + 1) wr) (fun s49 _ => m - (intOf s49).toNat)
      case atStart => exact ⟨0, Nat.zero_le _, rfl, R5.out⟩
      case round =>
        obtain ⟨k, hk, rfl, hR⟩ := hrel
        by_cases hlt : k < m
        · have HH := Lib.hid (holdB_ok 1 wr hR.t (by omega) (hT_has c k))
          have HR := Lib.hid hR
          clear hR
          go_wp2_with (go_at_call 18; refine HH.out.mono ?_; rintro e w6 ⟨rfl, hT6, hb6⟩; refine Hid.out ?_)
          have R6 := Lib.hid (HR.out.mk' HWB.out hT6 hb6)
          clear hT6 hb6
          refine Lib.hid ?_
          go_wp2
          go_roundw
          case rel => exact ⟨k + 1, by omega, by go_num, R6.out⟩
          case measure => simp [intOf]; omega
        · obtain rfl : k = m := by omega
          have R7 := Lib.hid (show HoldR w B tb (hS c k 0) (k + 1 + 0) wr by rw [hS_zero]; exact hR)
          clear hR hlt hk
          go_wp2
          go_loopw [58] (fun s58 wr => ∃ j : Nat, j ≤ k + 1 ∧ s58 = .int .i64 j ∧ HoldR w B tb (hS c k j) (k + 1 + j) wr) (fun s58 _ => k + 1 - (intOf s58).toNat)
          case atStart => exact ⟨0, Nat.zero_le _, rfl, R7.out⟩
          case round =>
            obtain ⟨j, hj, rfl, hR⟩ := hrel
            by_cases hlt : j < k + 1
            · have eh : heldI (hS c k j) 1 = (k : Int) + 1 - (j : Int) := by rw [hS_lt (by omega), hT_held]; omega
              have HD := Lib.hid (heldB 1 wr hR.t (by omega))
              rw [eh] at HD
              have HF := Lib.hid (freeB_ok 1 wr hR.t (by omega) hR.tab (by rw [hS_lt (by omega)]; exact hT_has c _))
              rw [hS_less (by omega)] at HF
              have HR := Lib.hid hR
              clear hR eh
              go_wp2_with (first
                | (go_at_call 23; refine HD.out.mono ?_; rintro e w6 ⟨rfl, rfl⟩)
                | (go_at_call 16; refine HF.out.mono ?_; rintro e w7 ⟨rfl, hT6, hb6⟩; refine Hid.out ?_))
              have R8 := Lib.hid (HR.out.mk' HWB.out hT6 hb6)
              clear hT6 hb6
              refine Lib.hid ?_
              go_wp2
              go_roundw
              case rel => exact ⟨j + 1, by omega, by go_num, R8.out⟩
              case measure => simp [intOf]; omega
            · obtain rfl : j = k + 1 := by omega
              rw [hS_end] at hR
              have HD := Lib.hid (heldB 1 wr hR.t (by omega))
              rw [hE_held] at HD
              have HO := Lib.hid (holdB_no 1 wr hR.t (by omega) hE_has)
              have HL := Lib.hid (lenB wr hR.t)
              rw [hE_len] at HL
              have HK := Lib.hid (known7_any wr (hR.tab.mono hR.t.hB))
              have HR := Lib.hid hR
              clear hR
              go_wp2_with (first
                | (go_at_call 23; refine HD.out.mono ?_; rintro e w6 ⟨rfl, hw⟩; subst hw)
                | (go_at_call 18; refine HO.out.mono ?_; rintro e w7 ⟨rfl, hw⟩; subst hw)
                | (go_at_call 24; refine HL.out.mono ?_; rintro e w8 ⟨rfl, hw⟩; subst hw)
                | (go_at_call 11; refine HK.out.mono ?_; rintro e w9 ⟨rfl, hb9⟩))
              go_ret
              exact ⟨rfl, below_add HR.out.bel hb9 HR.out.bel.size⟩
  · have HK := Lib.hid (known7_any w ht)
    clear ht
    by_cases h0 : n < 0
    · have e1 : decide (n < 0) = true := by simpa using h0
      clear hr
      go_enter Tryd.func6, Tryd.ntmps6
      go_wp2_with (go_at_call 11; refine HK.out.mono ?_; rintro e w9 ⟨rfl, hb9⟩)
      go_ret
      exact ⟨rfl, hb9⟩
    · have e1 : decide (n < 0) = false := by simpa using h0
      have e2 : decide (50 < n) = true := by rw [decide_eq_true_iff]; omega
      clear hr
      go_enter Tryd.func6, Tryd.ntmps6
      go_wp2_with (go_at_call 11; refine HK.out.mono ?_; rintro e w9 ⟨rfl, hb9⟩)
      go_ret
      exact ⟨rfl, hb9⟩
end Go.Proofs.YtiobcifpebehnaaDoor
