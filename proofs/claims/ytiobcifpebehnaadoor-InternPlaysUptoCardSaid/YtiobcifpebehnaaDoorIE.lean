
import Derived.Test.YtiobcifpebehnaaDoorID
import Derived.Deep.Cut
/- I19 -/
/- I19: InternHolds -/
namespace Go.Proofs.YtiobcifpebehnaaDoor
open Go.RowKit
set_option linter.unusedVariables false

theorem hT1 (c : Int) (hc : c = 0 ∨ c = 1) : may5 kT0.ks [flagA c] = 0 ∧ kT0.idOf [flagA c] = 1 := by
  rcases hc with rfl | rfl <;> exact ⟨by kernel_rfl, by kernel_rfl⟩
/-- The table with that set, held so often. -/
def hT (c : Int) (q : Nat) : TabS := ⟨[flagK], [noEnt, ⟨[flagA c], q⟩], []⟩
theorem hT_add (c : Int) (hc : c = 0 ∨ c = 1) : kT0.add [flagA c] = hT c 1 := by
  rcases hc with rfl | rfl <;> kernel_rfl
theorem hT_bump (c : Int) (q : Nat) : (hT c q).bump 1 = hT c (q + 1) := rfl
theorem hT_has (c : Int) (q : Nat) : (hT c (q + 1)).has 1 = true := by
  unfold TabS.has
  rw [decide_eq_true_iff]
  exact .inr ⟨by decide, by simp [hT], by simp [hT, TabS.times]⟩
theorem hT_held (c : Int) (q : Nat) : heldI (hT c (q + 1)) 1 = ((q + 1 : Nat) : Int) := by
  unfold heldI
  rw [hT_has, if_pos rfl]
  rfl
theorem hT_less (c : Int) (q : Nat) : (hT c (q + 2)).less 1 = hT c (q + 1) := by
  rw [less_upd (by rintro ⟨-, h⟩; simp [hT, TabS.times] at h)]
  rfl
def hEnd : TabS := ⟨[flagK], [noEnt, noEnt], [1]⟩
theorem hT_last (c : Int) : (hT c 1).less 1 = hEnd := by
  rw [less_out (by decide) rfl]
  rfl
theorem hE_held : heldI hEnd 1 = 0 := by kernel_rfl
theorem hE_has : hEnd.has 1 = false := by kernel_rfl
theorem hE_len : hEnd.len = 1 := by kernel_rfl
theorem holdB_ok {B tb : Nat} {T : TabS} {n : Nat} (i : Nat) (w : World) (h : TB B tb T n w) (hn : n ≤ 1000000) (hh : T.has (i : Nat) = true) :
    Calls Tryd.prog 18 #[.pointer (some ⟨tb, 0, none⟩), .int .i64 (i : Nat)] w fun e w' => e = .returned (.int .i64 0) ∧ TB B tb (T.bump i) (n + 1) w' ∧ Below B w w' := by
  refine (holdB (i : Nat) w h hn).mono fun e w' hP => ?_
  rcases hP with ⟨-, p2, p3, p4⟩ | ⟨p1, -⟩
  · rw [Int.toNat_natCast] at p3; exact ⟨p2, p3, p4⟩
  · rw [hh] at p1; cases p1
theorem holdB_no {B tb : Nat} {T : TabS} {n : Nat} (id : Int) (w : World) (h : TB B tb T n w) (hn : n ≤ 1000000) (hh : T.has id = false) :
    Calls Tryd.prog 18 #[.pointer (some ⟨tb, 0, none⟩), .int .i64 id] w fun e w' => e = .returned (.int .i64 5) ∧ w' = w := by
  refine (holdB id w h hn).mono fun e w' hP => ?_
  rcases hP with ⟨p1, -⟩ | ⟨-, p2, p3⟩
  · rw [hh] at p1; cases p1
  · exact ⟨p2, p3⟩

/-- A table of one flag's schema, as the laws begin with it. -/
theorem begin_new (w w1 : World) (v : Value) (hs : Sch w1 v [flagK]) (hb : Below w.heap.size w w1) (ht : Tab w.heap.size w) :
    Calls Tryd.prog 12 #[v] w1 fun e w2 => ∃ tb, e = .returned (.pointer (some ⟨tb, 0, none⟩)) ∧ TB w1.heap.size tb kT0 0 w2 ∧ Tab w1.heap.size w2 ∧ Below w.heap.size w w2 ∧ w.heap.size ≤ w1.heap.size :=
  (new7_any _ _ w1 hs).mono fun e w2 ⟨tb, he, hT, hb2⟩ => ⟨tb, he, hT, ((ht.on hb).mono hb.size).on hb2, hb.trans (hb2.mono hb.size), hb.size⟩

/-- Where the second loop has come to. -/
def hS (c : Int) (m k : Nat) : TabS := if k = m + 1 then hEnd else hT c (m + 1 - k)
theorem hS_lt {c : Int} {m k : Nat} (h : k ≤ m) : hS c m k = hT c (m - k + 1) := by
  unfold hS
  rw [if_neg (by omega)]
  congr 1
  omega
theorem hS_end (c : Int) (m : Nat) : hS c m (m + 1) = hEnd := if_pos rfl
theorem hS_zero (c : Int) (m : Nat) : hS c m 0 = hT c (m + 1) := if_neg (by omega)
theorem hS_less {c : Int} {m k : Nat} (h : k ≤ m) : (hS c m k).less 1 = hS c m (k + 1) := by
  rw [hS_lt h]
  by_cases he : k = m
  · subst he
    rw [hS_end, Nat.sub_self]
    exact hT_last c
  · rw [hS_lt (by omega), show m - k = (m - (k + 1)) + 1 by omega]
    exact hT_less c _

/-- The second half: held so often, it is freed as often. -/
structure HoldR (w : World) (B tb : Nat) (T : TabS) (n : Nat) (wr : World) : Prop where
  t : TB B tb T n wr
  tab : Tab B wr
  bel : Below w.heap.size w wr
theorem HoldR.mk' {w : World} {B tb : Nat} {T T' : TabS} {n n' : Nat} {wr w' : World} (h : HoldR w B tb T n wr) (hB : w.heap.size ≤ B) (ht : TB B tb T' n' w') (hb : Below B wr w') : HoldR w B tb T' n' w' :=
  ⟨ht, h.tab.on hb, h.bel.trans (hb.mono hB)⟩

set_option maxRecDepth 100000 in
set_option maxHeartbeats 2000000 in
theorem holds_walk (n : Int) (flag : Bool) (w : World) (ht : Tab w.heap.size w) :
    Calls Tryd.prog 6 #[.int .i64 n, .bool flag] w fun e w' => e = .returned (.bool true) ∧ Below w.heap.size w w' := by
  have HT := Lib.hid ht
  by_cases hr : 0 ≤ n ∧ n ≤ 50
  · obtain ⟨m, rfl⟩ : ∃ m : Nat, n = m := ⟨n.toNat, by omega⟩
    have hm : m ≤ 50 := by omega
    have e1 : decide ((m : Int) < 0) = false := by rw [decide_eq_false_iff_not]; omega
    have e2 : decide (50 < (m : Int)) = false := by rw [decide_eq_false_iff_not]; omega
    have hb0 := (Below.refl w.heap.size w).alloc (Nat.le_refl _) (.cells (flat [flagK]).toArray 67)
    have HN := Lib.hid (new_yes (krow_built w 67 [flagK] (by decide)) keyW1 kGood)
    have hkf : (flat [flagK]).toArray = #[.int .i64 1, .bool false, .int .u8 1, .bool false, .bool false, .int .i64 0] := rfl
    rw [hkf] at HN hb0
    have HB0 := Lib.hid hb0
    clear hkf hb0 ht hr
    obtain ⟨c, hc, hfc⟩ : ∃ c : Int, (c = 0 ∨ c = 1) ∧ c = if flag then 1 else 0 := ⟨if flag then 1 else 0, by cases flag <;> simp, rfl⟩
    go_enter Tryd.func6, Tryd.ntmps6
    go_wp2_with (go_at_call 9; refine HN.out.mono ?_; rintro e w1 ⟨s, rfl, hs, hb1⟩; refine Hid.out ?_)
    have HS := Lib.hid hs
    have B1 := Lib.hid (below_add HB0.out hb1 HB0.out.size)
    clear hs hb1 HN HB0
    refine Lib.hid ?_
    go_wp2_with (go_at_call 12; refine (begin_new w w1 _ HS.out B1.out HT.out).mono ?_; rintro e w2 ⟨tb, rfl, hT, hTab, hb2, hsz⟩; refine Hid.out ?_)
    generalize w1.heap.size = B at *
    have R2 := Lib.hid (HoldR.mk hT hTab hb2)
    have HWB := Lib.hid hsz
    clear hT hTab hb2 hsz HS B1
    refine Lib.hid ?_
    go_wp2_with (go_at_call 26; refine (flags_any 0 w2).mono ?_; rintro e w3 ⟨b3, hlt, rfl, hR, hb⟩; refine Hid.out ?_)
    have HR := Lib.hid hR
    have HL := Lib.hid hlt
    have HBf := Lib.hid hb
    clear hR hlt hb
    refine Lib.hid ?_
    go_upto_if 34 with (fail)
    go_cut [8] from 12 (fun s8 wr => ∃ b, w2.heap.size ≤ b ∧ s8 = .slice (some ⟨b, 0, none⟩) 1 1 ∧ Arow wr (.slice (some ⟨b, 0, none⟩) 1 1) [flagA c] ∧ Below w2.heap.size w2 wr)
    case first =>
      cases flag with
      | false =>
        obtain rfl : c = 0 := hfc
        go_wp2
        go_meet
        exact ⟨b3, HL.out, rfl, HR.out, HBf.out⟩
      | true =>
        obtain rfl : c = 1 := hfc
        go_wp2_with (go_at_call 26; refine (flags_any 1 w3).mono ?_; rintro e w4 ⟨b4, hlt, rfl, hR, hb⟩; refine Hid.out ?_)
        have HX := Lib.hid (show w2.heap.size ≤ b4 ∧ Arow w4 (.slice (some ⟨b4, 0, none⟩) 1 1) [flagA 1] ∧ Below w2.heap.size w2 w4 from ⟨Nat.le_trans HBf.out.size hlt, hR, below_add HBf.out hb HBf.out.size⟩)
        clear hlt hR hb
        refine Lib.hid ?_
        go_wp2
        go_meet
        exact ⟨b4, HX.out.1, rfl, HX.out.2.1, HX.out.2.2⟩
    case rest =>
      obtain ⟨b, hb, rfl, hR4, hb4⟩ := hcut
      have HA := Lib.hid (addB_ok _ [flagA c] w2 wc R2.out.t hb4 hR4 (flagW c hc) (by omega) (R2.out.tab.on (hb4.mono R2.out.t.hB)) (outs_new (fun hk => by omega)) (hT1 c hc).1 (hT1 c hc).2)
      rw [hT_add c hc] at HA
      have R4 := Lib.hid (show Tab B wc ∧ Below w.heap.size w wc from ⟨R2.out.tab.on (hb4.mono R2.out.t.hB), below_add R2.out.bel hb4 R2.out.bel.size⟩)
      clear hb hR4 hb4 R2 HR HL HBf
      go_wp2_with (go_at_call 14; refine HA.out.mono ?_; rintro e w5 ⟨rfl, hT5, hb5⟩; refine Hid.out ?_)
      have R5 := Lib.hid (show HoldR w B tb (hT c 1) 1 w5 from ⟨hT5, R4.out.1.on hb5, R4.out.2.trans (hb5.mono HWB.out)⟩)
      clear hT5 hb5 R4 HA
      refine Lib.hid ?_
      go_wp2
      go_loopw [49] (fun s49 wr => ∃ k : Nat, k ≤ m ∧ s49 = .int .i64 k ∧ HoldR w B tb (hT c (k + 1)) (k + 1) wr) (fun s49 _ => m - (intOf s49).toNat)
      case atStart => exact ⟨0, Nat.zero_le _, rfl, R5.out⟩
      case round =>
        obtain ⟨k, hk, rfl, hR⟩ := hrel
        by_cases hlt : k < m
        · have HH := Lib.hid (holdB_ok 1 wr hR.t (by omega) (hT_has c k))
          have HR := Lib.hid hR
          clear hR
          go_wp2_with (go_at_call 18; refine HH.out.mono ?_; rintro e w6 ⟨rfl, hT6, hb6⟩; refine Hid.out ?_)
          have R6 := Lib.hid (HR.out.mk' HWB.out hT6 hb6)
          clear hT6 hb6
          refine Lib.hid ?_
          go_wp2
          go_roundw
          case rel => exact ⟨k + 1, by omega, by go_num, R6.out⟩
          case measure => simp [intOf]; omega
        · obtain rfl : k = m := by omega
          have R7 := Lib.hid (show HoldR w B tb (hS c k 0) (k + 1 + 0) wr by rw [hS_zero]; exact hR)
          clear hR hlt hk
          go_wp2
          go_loopw [58] (fun s58 wr => ∃ j : Nat, j ≤ k + 1 ∧ s58 = .int .i64 j ∧ HoldR w B tb (hS c k j) (k + 1 + j) wr) (fun s58 _ => k + 1 - (intOf s58).toNat)
          case atStart => exact ⟨0, Nat.zero_le _, rfl, R7.out⟩
          case round =>
            obtain ⟨j, hj, rfl, hR⟩ := hrel
            by_cases hlt : j < k + 1
            · have eh : heldI (hS c k j) 1 = (k : Int) + 1 - (j : Int) := by rw [hS_lt (by omega), hT_held]; omega
              have HD := Lib.hid (heldB 1 wr hR.t (by omega))
              rw [eh] at HD
              have HF := Lib.hid (freeB_ok 1 wr hR.t (by omega) hR.tab (by rw [hS_lt (by omega)]; exact hT_has c _))
              rw [hS_less (by omega)] at HF
              have HR := Lib.hid hR
              clear hR eh
              go_wp2_with (first
                | (go_at_call 23; refine HD.out.mono ?_; rintro e w6 ⟨rfl, rfl⟩)
                | (go_at_call 16; refine HF.out.mono ?_; rintro e w7 ⟨rfl, hT6, hb6⟩; refine Hid.out ?_))
              have R8 := Lib.hid (HR.out.mk' HWB.out hT6 hb6)
              clear hT6 hb6
              refine Lib.hid ?_
              go_wp2
              go_roundw
              case rel => exact ⟨j + 1, by omega, by go_num, R8.out⟩
              case measure => simp [intOf]; omega
            · obtain rfl : j = k + 1 := by omega
              rw [hS_end] at hR
              have HD := Lib.hid (heldB 1 wr hR.t (by omega))
              rw [hE_held] at HD
              have HO := Lib.hid (holdB_no 1 wr hR.t (by omega) hE_has)
              have HL := Lib.hid (lenB wr hR.t)
              rw [hE_len] at HL
              have HK := Lib.hid (known7_any wr (hR.tab.mono hR.t.hB))
              have HR := Lib.hid hR
              clear hR
              go_wp2_with (first
                | (go_at_call 23; refine HD.out.mono ?_; rintro e w6 ⟨rfl, hw⟩; subst hw)
                | (go_at_call 18; refine HO.out.mono ?_; rintro e w7 ⟨rfl, hw⟩; subst hw)
                | (go_at_call 24; refine HL.out.mono ?_; rintro e w8 ⟨rfl, hw⟩; subst hw)
                | (go_at_call 11; refine HK.out.mono ?_; rintro e w9 ⟨rfl, hb9⟩))
              go_ret
              exact ⟨rfl, below_add HR.out.bel hb9 HR.out.bel.size⟩
  · have HK := Lib.hid (known7_any w ht)
    clear ht
    by_cases h0 : n < 0
    · have e1 : decide (n < 0) = true := by simpa using h0
      clear hr
      go_enter Tryd.func6, Tryd.ntmps6
      go_wp2_with (go_at_call 11; refine HK.out.mono ?_; rintro e w9 ⟨rfl, hb9⟩)
      go_ret
      exact ⟨rfl, hb9⟩
    · have e1 : decide (n < 0) = false := by simpa using h0
      have e2 : decide (50 < n) = true := by rw [decide_eq_true_iff]; omega
      clear hr
      go_enter Tryd.func6, Tryd.ntmps6
      go_wp2_with (go_at_call 11; refine HK.out.mono ?_; rintro e w9 ⟨rfl, hb9⟩)
      go_ret
      exact ⟨rfl, hb9⟩
end Go.Proofs.YtiobcifpebehnaaDoor

/- I20 -/
/- I20: InternReuse -/
namespace Go.Proofs.YtiobcifpebehnaaDoor
open Go.RowKit
set_option linter.unusedVariables false

@[reducible] def textK : Key := ⟨3, false, 4, false, false, 0⟩
def chA (i : Nat) : Nat := 97 + i % 26
def chB (i : Nat) : Nat := 97 + i / 26
def strI (i : Nat) : ByteArray := ⟨#[UInt8.ofNat (chA i), UInt8.ofNat (chB i)]⟩
def sA (i : Nat) : Att := ⟨3, 4, 0, 0, strI i⟩

theorem strI_conv (i : Nat) (w : World) : (convert 71 9 (.slice (some ⟨w.heap.size, 0, none⟩) 2 2)).run Tryd.prog (w.alloc (.cells #[.int .u8 (97 + (i : Int) % 26), .int .u8 (97 + (i : Int) / 26)] 5)) = .ok (.string (strI i)) (w.alloc (.cells #[.int .u8 (97 + (i : Int) % 26), .int .u8 (97 + (i : Int) / 26)] 5)) := by
  have h := conv_str (P := Tryd.prog) 71 9 5 Tryd.underlying71 Tryd.underlying5 Tryd.underlying9 _ _ _ (ints_built .u8 w 5 [97 + (i : Int) % 26, 97 + (i : Int) / 26] (by simp [maxLen]))
  have e : strOfNums [97 + (i : Int) % 26, 97 + (i : Int) / 26] = strI i := by
    have e1 : (97 + (i : Int) % 26).toNat = chA i := by unfold chA; omega
    have e2 : (97 + (i : Int) / 26).toNat = chB i := by unfold chB; omega
    show ByteArray.mk #[UInt8.ofNat (97 + (i : Int) % 26).toNat, UInt8.ofNat (97 + (i : Int) / 26).toNat] = _
    rw [e1, e2]
    rfl
  rw [e] at h
  exact h

set_option maxRecDepth 100000 in
theorem reuse_set (i : Nat) (hi : i ≤ 60) (w : World) : Calls Tryd.prog 27 #[.int .i64 i] w fun e w' => ∃ b, w.heap.size ≤ b ∧ e = .returned (.slice (some ⟨b, 0, none⟩) 1 1) ∧ Arow w' (.slice (some ⟨b, 0, none⟩) 1 1) [sA i] ∧ Below w.heap.size w w' := by
  have hcv := strI_conv i w
  have hR := row_new1 w (.cells #[.int .u8 (97 + (i : Int) % 26), .int .u8 (97 + (i : Int) / 26)] 5) (sA i) 47
  have hB := kbelow_two w (.cells #[.int .u8 (97 + (i : Int) % 26), .int .u8 (97 + (i : Int) / 26)] 5) (.cells (aca (sA i)) 47)
  have HR := Lib.hid hR
  have HB := Lib.hid hB
  clear hR hB
  go_enter Tryd.func27, Tryd.ntmps27
  go_wp2
  go_ret
  exact ⟨_, Nat.le_add_right _ _, rfl, HR.out, HB.out⟩

/-! ### the sets are all unlike, and may be -/
theorem strI_inj {i j : Nat} (hi : i ≤ 60) (hj : j ≤ 60) (h : strI i = strI j) : i = j := by
  have h1 : #[UInt8.ofNat (chA i), UInt8.ofNat (chB i)] = #[UInt8.ofNat (chA j), UInt8.ofNat (chB j)] := by
    have := congrArg ByteArray.data h
    exact this
  have h2 : UInt8.ofNat (chA i) = UInt8.ofNat (chA j) ∧ UInt8.ofNat (chB i) = UInt8.ofNat (chB j) := by simpa using h1
  obtain ⟨h3, h4⟩ := h2
  have h3 := congrArg UInt8.toNat h3
  have h4 := congrArg UInt8.toNat h4
  rw [UInt8.toNat_ofNat', UInt8.toNat_ofNat'] at h3 h4
  unfold chA chB at *
  omega
theorem sA_inj {i j : Nat} (hi : i ≤ 60) (hj : j ≤ 60) (h : [sA i] = [sA j]) : i = j := by
  have h1 : sA i = sA j := (List.cons.inj h).1
  unfold sA at h1
  injection h1 with _ _ _ _ h5
  exact strI_inj hi hj h5
theorem sA_may_all : ((List.range 61).all fun i => may5 [textK] [sA i] == 0) = true := by kernel_rfl
theorem sA_may {i : Nat} (hi : i ≤ 60) : may5 [textK] [sA i] = 0 := by
  have := List.all_eq_true.1 sA_may_all i (List.mem_range.2 (by omega))
  simpa using this
theorem sA_W (i : Nat) : ∀ a ∈ [sA i], AttW a := by
  intro a ha
  obtain rfl := List.mem_singleton.1 ha
  exact ⟨show (Lit.int .i64 3).wf = true by decide, show (Lit.int .u8 4).wf = true by decide, show (Lit.int .i64 0).wf = true by decide, show (Lit.int .u64 0).wf = true by decide, by simp [sA, strI, ByteArray.size, maxLen]⟩
theorem textGood : mayKs [textK] := by
  refine ⟨by decide, fun k hk => ?_, by simp [Apart]⟩
  obtain rfl := List.mem_singleton.1 hk
  rfl
theorem textKW : ∀ k ∈ [textK], KeyW k := by
  intro k hk
  obtain rfl := List.mem_singleton.1 hk
  exact ⟨by decide, by decide, by decide⟩

theorem look_none_of {T : TabS} {x : List Att} (h : ∀ i, i < T.es.length → T.live i → T.set i ≠ x) : T.look x = none := by
  unfold TabS.look
  rw [List.find?_eq_none]
  intro i hi
  simp only [decide_eq_true_iff]
  rintro ⟨h1, h2⟩
  exact h i (List.mem_range.1 hi) h1 h2
/-- The table with the first k sets. -/
def rE (k : Nat) : List Ent := noEnt :: (List.range k).map fun i => ⟨[sA i], 1⟩
def rT (k : Nat) : TabS := ⟨[textK], rE k, []⟩
theorem rE_len (k : Nat) : (rE k).length = k + 1 := by simp [rE]
theorem rE_succ (k : Nat) : rE (k + 1) = rE k ++ [⟨[sA k], 1⟩] := by simp [rE, List.range_succ]
theorem rE_set {k i : Nat} (h : i < k + 1) : (rE k).getD i noEnt = if i = 0 then noEnt else ⟨[sA (i - 1)], 1⟩ := by
  unfold rE
  cases i with
  | zero => rfl
  | succ j =>
    rw [if_neg (by omega)]
    rw [List.getD_eq_getElem?_getD, List.getElem?_cons_succ, List.getElem?_map, List.getElem?_range (by omega)]
    rfl
theorem rT_look {k n : Nat} (hk : k ≤ n) (hn : n ≤ 60) : (rT k).look [sA n] = none := by
  refine look_none_of fun i hi _ => ?_
  have hi' : i < k + 1 := by simpa [rT, rE_len] using hi
  unfold TabS.set
  show ((rE k).getD i noEnt).set ≠ _
  rw [rE_set hi']
  split
  · simp
  · intro e
    have := sA_inj (by omega) hn e
    omega
theorem rT_add {k : Nat} (hk : k ≤ 60) : (rT k).add [sA k] = rT (k + 1) ∧ (rT k).idOf [sA k] = k + 1 := by
  have hl := rT_look (Nat.le_refl k) hk
  unfold TabS.add TabS.idOf
  rw [hl]
  refine ⟨?_, ?_⟩
  · show (⟨[textK], rE k ++ [⟨[sA k], 1⟩], []⟩ : TabS) = _
    rw [← rE_succ]
    rfl
  · show (rE k).length = k + 1
    exact rE_len k
/-- .. without one of them. -/
def rG (n g : Nat) : TabS := ⟨[textK], (rE n).set (g + 1) noEnt, [g + 1]⟩
def rH (n g : Nat) : TabS := ⟨[textK], ((rE n).set (g + 1) noEnt).set (g + 1) ⟨[sA n], 1⟩, []⟩
theorem rT_has {n g : Nat} (hg : g < n) : (rT n).has ((g + 1 : Nat) : Int) = true := by
  refine live_has (.inr ⟨by simp [rT, rE_len]; omega, ?_⟩)
  show 0 < ((rE n).getD (g + 1) noEnt).n
  rw [rE_set (by omega), if_neg (by omega)]
  exact Nat.one_pos
theorem rT_less {n g : Nat} (hg : g < n) : (rT n).less (g + 1) = rG n g := by
  rw [less_out (by omega)]
  · rfl
  · show ((rE n).getD (g + 1) noEnt).n = 1
    rw [rE_set (by omega), if_neg (by omega)]
theorem rG_get {n g i : Nat} (hg : g < n) : ((rE n).set (g + 1) noEnt).getD i noEnt = if i = g + 1 then noEnt else (rE n).getD i noEnt := by
  rw [getD_set]
  by_cases h : i = g + 1
  · rw [if_pos ⟨h, by rw [rE_len]; omega⟩, if_pos h]
  · rw [if_neg (fun hc => h hc.1), if_neg h]
theorem rG_add {n g : Nat} (hg : g < n) (hn : n ≤ 60) : (rG n g).add [sA n] = rH n g ∧ (rG n g).idOf [sA n] = g + 1 := by
  have hl : (rG n g).look [sA n] = none := by
    refine look_none_of fun i hi _ => ?_
    have hi' : i < n + 1 := by simpa [rG, rE_len] using hi
    show (((rE n).set (g + 1) noEnt).getD i noEnt).set ≠ _
    rw [rG_get hg]
    split
    · simp
    · rw [rE_set hi']
      split
      · simp
      · intro e
        have := sA_inj (by omega) hn e
        omega
  unfold TabS.add TabS.idOf
  rw [hl]
  exact ⟨rfl, rfl⟩
theorem rH_get {n g i : Nat} (hg : g < n) : (((rE n).set (g + 1) noEnt).set (g + 1) ⟨[sA n], 1⟩).getD i noEnt = if i = g + 1 then ⟨[sA n], 1⟩ else (rE n).getD i noEnt := by
  rw [getD_set]
  by_cases h : i = g + 1
  · rw [if_pos ⟨h, by rw [List.length_set, rE_len]; omega⟩, if_pos h]
  · rw [if_neg (fun hc => h hc.1), if_neg h, rG_get hg, if_neg h]
theorem rH_add {n g : Nat} (hg : g < n) (hn : n ≤ 59) : (rH n g).idOf [sA (n + 1)] = n + 1 ∧ ((rH n g).add [sA (n + 1)]).len = n + 2 := by
  have hlen : (rH n g).es.length = n + 1 := by simp [rH, rE_len]
  have hl : (rH n g).look [sA (n + 1)] = none := by
    refine look_none_of fun i hi _ => ?_
    rw [hlen] at hi
    show ((((rE n).set (g + 1) noEnt).set (g + 1) ⟨[sA n], 1⟩).getD i noEnt).set ≠ _
    rw [rH_get hg]
    split
    · intro e
      have := sA_inj (by omega) (by omega) e
      omega
    · rw [rE_set hi]
      split
      · simp
      · intro e
        have := sA_inj (by omega) (by omega) e
        omega
  unfold TabS.add TabS.idOf
  rw [hl]
  refine ⟨hlen, ?_⟩
  show ((rH n g).es ++ [_]).length - 0 = n + 2
  simp [hlen]
end Go.Proofs.YtiobcifpebehnaaDoor

/- I21 -/
/- I21: InternReuse's walk -/
namespace Go.Proofs.YtiobcifpebehnaaDoor
open Go.RowKit
set_option linter.unusedVariables false

theorem begin_any (ks : List Key) (w w1 : World) (v : Value) (hs : Sch w1 v ks) (hb : Below w.heap.size w w1) (ht : Tab w.heap.size w) :
    Calls Tryd.prog 12 #[v] w1 fun e w2 => ∃ tb, e = .returned (.pointer (some ⟨tb, 0, none⟩)) ∧ HoldR w w1.heap.size tb (newT ks) 0 w2 ∧ w.heap.size ≤ w1.heap.size :=
  (new7_any _ _ w1 hs).mono fun e w2 ⟨tb, he, hT, hb2⟩ => ⟨tb, he, ⟨hT, ((ht.on hb).mono hb.size).on hb2, hb.trans (hb2.mono hb.size)⟩, hb.size⟩
/-- A set made by the law, put in. -/
theorem HoldR.put {w : World} {B tb : Nat} {T : TabS} {n : Nat} {wr w' : World} (h : HoldR w B tb T n wr) (hn : n ≤ 1000000) {b l c : Nat} {x : List Att} (hb : Below wr.heap.size wr w') (hlt : wr.heap.size ≤ b) (hR : Arow w' (.slice (some ⟨b, 0, none⟩) l c) x) (hW : ∀ a ∈ x, AttW a) (hm : may5 T.ks x = 0) {i : Nat} (hi : T.idOf x = i) (hB : w.heap.size ≤ B) :
    Calls Tryd.prog 14 #[.pointer (some ⟨tb, 0, none⟩), .slice (some ⟨b, 0, none⟩) l c] w' fun e w2 => e = .returned (.tuple #[.int .i64 (i : Nat), .int .i64 0]) ∧ HoldR w B tb (T.add x) (n + 1) w2 :=
  (addB_ok _ x wr w' h.t hb hR hW hn (h.tab.on (hb.mono h.t.hB)) (outs_new (fun hk => by omega)) hm hi).mono fun e w2 ⟨p1, p2, p3⟩ => ⟨p1, p2, (h.tab.on (hb.mono h.t.hB)).on p3, (below_add h.bel hb h.bel.size).trans (p3.mono hB)⟩
theorem rem_fact (a : Int) (m : Nat) (h : 0 < m) : ∃ u g : Nat, IntKind.u64.wrap a = (u : Int) ∧ (u : Int) % (m : Int) = (g : Int) ∧ g < m := by
  have h0 := IntKind.wrap_u64 a
  refine ⟨(IntKind.u64.wrap a).toNat, (IntKind.u64.wrap a).toNat % m, ?_, by simp, Nat.mod_lt _ h⟩
  rw [h0]
  omega

set_option maxRecDepth 100000 in
set_option maxHeartbeats 2000000 in
theorem reuse_walk (n gone : Int) (w : World) (ht : Tab w.heap.size w) :
    Calls Tryd.prog 8 #[.int .i64 n, .int .i64 gone] w fun e w' => e = .returned (.bool true) ∧ Below w.heap.size w w' := by
  have HT := Lib.hid ht
  by_cases hr : 1 ≤ n ∧ n ≤ 40
  · obtain ⟨m, rfl⟩ : ∃ m : Nat, n = m := ⟨n.toNat, by omega⟩
    have hm0 : 0 < m := by omega
    have hm : m ≤ 40 := by omega
    have e1 : decide ((m : Int) < 1) = false := by rw [decide_eq_false_iff_not]; omega
    have e2 : decide (40 < (m : Int)) = false := by rw [decide_eq_false_iff_not]; omega
    obtain ⟨u, g, hu, hg, hgm⟩ := rem_fact gone m hm0
    have hw1 : IntKind.u64.wrap (m : Int) = m := IntWalk.u64_in _ (by omega)
    have hm1 : ((m : Int) == 0) = false := by simp; omega
    have hb0 := (Below.refl w.heap.size w).alloc (Nat.le_refl _) (.cells (flat [textK]).toArray 67)
    have HN := Lib.hid (new_yes (krow_built w 67 [textK] (by decide)) textKW textGood)
    have hkf : (flat [textK]).toArray = #[.int .i64 3, .bool false, .int .u8 4, .bool false, .bool false, .int .i64 0] := rfl
    rw [hkf] at HN hb0
    have HB0 := Lib.hid hb0
    clear hkf hb0 ht hr
    go_enter Tryd.func8, Tryd.ntmps8
    go_wp2_with (go_at_call 9; refine HN.out.mono ?_; rintro e w1 ⟨s, rfl, hs, hb1⟩; refine Hid.out ?_)
    have HS := Lib.hid hs
    have B1 := Lib.hid (below_add HB0.out hb1 HB0.out.size)
    clear hs hb1 HN HB0
    refine Lib.hid ?_
    go_wp2_with (go_at_call 12; refine (begin_any _ w w1 _ HS.out B1.out HT.out).mono ?_; rintro e w2 ⟨tb, rfl, hR2, hsz⟩; refine Hid.out ?_)
    generalize w1.heap.size = B at *
    have R2 := Lib.hid (show HoldR w B tb (rT 0) 0 w2 from hR2)
    have HWB := Lib.hid hsz
    clear hR2 hsz HS B1
    refine Lib.hid ?_
    go_wp2
    go_loopw [39] (fun s39 wr => ∃ k : Nat, k ≤ m ∧ s39 = .int .i64 k ∧ HoldR w B tb (rT k) k wr) (fun s39 _ => m - (intOf s39).toNat)
    case atStart => exact ⟨0, Nat.zero_le _, rfl, R2.out⟩
    case round =>
      obtain ⟨k, hk, rfl, hR⟩ := hrel
      by_cases hlt : k < m
      · have HR := Lib.hid hR
        clear hR
        go_wp2_with (go_at_call 27; refine (reuse_set k (by omega) wr).mono ?_; rintro e w3 ⟨b, hb, rfl, hrow, hbel⟩; refine Hid.out ?_)
        have HA := Lib.hid (HR.out.put (by omega) hbel hb hrow (sA_W k) (sA_may (by omega)) (rT_add (by omega)).2 HWB.out)
        rw [(rT_add (by omega)).1] at HA
        clear hb hrow hbel
        refine Lib.hid ?_
        go_wp2_with (go_at_call 14; refine HA.out.mono ?_; rintro e w4 ⟨rfl, hR4⟩; refine Hid.out ?_)
        have R4 := Lib.hid hR4
        clear hR4 HA
        refine Lib.hid ?_
        go_wp2
        go_roundw
        case rel => exact ⟨k + 1, by omega, by go_num, R4.out⟩
        case measure => simp [intOf]; omega
      · obtain rfl : k = m := by omega
        have HF := Lib.hid (freeB_ok (g + 1) wr hR.t (by omega) hR.tab (rT_has hgm))
        rw [rT_less hgm] at HF
        have HR := Lib.hid hR
        clear hR
        go_wp2_with (go_at_call 16; refine HF.out.mono ?_; rintro e w5 ⟨rfl, hT5, hb5⟩; refine Hid.out ?_)
        have R5 := Lib.hid (HR.out.mk' HWB.out hT5 hb5)
        clear hT5 hb5 HF
        refine Lib.hid ?_
        go_wp2_with (go_at_call 27; refine (reuse_set k (by omega) w5).mono ?_; rintro e w6 ⟨b6, hb, rfl, hrow, hbel⟩; refine Hid.out ?_)
        have HA := Lib.hid (R5.out.put (by omega) hbel hb hrow (sA_W k) (sA_may (by omega)) (rG_add hgm (by omega)).2 HWB.out)
        rw [(rG_add hgm (by omega)).1] at HA
        clear hb hrow hbel
        refine Lib.hid ?_
        go_wp2_with (go_at_call 14; refine HA.out.mono ?_; rintro e w7 ⟨rfl, hR7⟩; refine Hid.out ?_)
        have R7 := Lib.hid hR7
        have HS2 := Lib.hid (reuse_set (k + 1) (by omega) w7)
        rw [show (((k + 1 : Nat)) : Int) = (k : Int) + 1 by omega] at HS2
        clear hR7 HA
        refine Lib.hid ?_
        go_wp2_with (go_at_call 27; refine HS2.out.mono ?_; rintro e w8 ⟨b8, hb, rfl, hrow, hbel⟩; refine Hid.out ?_)
        have HA := Lib.hid (R7.out.put (by omega) hbel hb hrow (sA_W (k + 1)) (sA_may (by omega)) (rH_add hgm (by omega)).1 HWB.out)
        clear hb hrow hbel
        refine Lib.hid ?_
        go_wp2_with (go_at_call 14; refine HA.out.mono ?_; rintro e w9 ⟨rfl, hR9⟩; refine Hid.out ?_)
        have HL := Lib.hid (lenB w9 hR9.t)
        rw [(rH_add hgm (by omega)).2] at HL
        have HK := Lib.hid (known7_any w9 (hR9.tab.mono hR9.t.hB))
        have R9 := Lib.hid hR9
        clear hR9 HA
        refine Lib.hid ?_
        go_wp2_with (first
          | (go_at_call 24; refine HL.out.mono ?_; rintro e w8 ⟨rfl, hw⟩; subst hw)
          | (go_at_call 11; refine HK.out.mono ?_; rintro e w10 ⟨rfl, hb10⟩))
        go_ret
        exact ⟨rfl, below_add R9.out.bel hb10 R9.out.bel.size⟩
  · have HK := Lib.hid (known7_any w ht)
    clear ht
    by_cases h0 : n < 1
    · have e1 : decide (n < 1) = true := by simpa using h0
      clear hr
      go_enter Tryd.func8, Tryd.ntmps8
      go_wp2_with (go_at_call 11; refine HK.out.mono ?_; rintro e w9 ⟨rfl, hb9⟩)
      go_ret
      exact ⟨rfl, hb9⟩
    · have e1 : decide (n < 1) = false := by simpa using h0
      have e2 : decide (40 < n) = true := by rw [decide_eq_true_iff]; omega
      clear hr
      go_enter Tryd.func8, Tryd.ntmps8
      go_wp2_with (go_at_call 11; refine HK.out.mono ?_; rintro e w9 ⟨rfl, hb9⟩)
      go_ret
      exact ⟨rfl, hb9⟩
end Go.Proofs.YtiobcifpebehnaaDoor
