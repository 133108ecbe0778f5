
import Derived.Test.YtiobcifpebehnaaDoorI20
/- I21: InternReuse's walk -/
namespace Go.Proofs.YtiobcifpebehnaaDoor
open Go.RowKit
set_option linter.unusedVariables false

theorem begin_any (ks : List Key) (w w1 : World) (v : Value) (hs : Sch w1 v ks) (hb : Below w.heap.size w w1) (ht : Tab w.heap.size w) :
    Calls Tryd.prog 12 #[v] w1 fun e w2 => ∃ tb, e = .returned (.pointer (some ⟨tb, 0, none⟩)) ∧ HoldR w w1.heap.size tb (newT ks) 0 w2 ∧ w.heap.size ≤ w1.heap.size :=
  (new7_any _ _ w1 hs).mono fun e w2 ⟨tb, he, hT, hb2⟩ => ⟨tb, he, ⟨hT, ((ht.on hb).mono hb.size).on hb2, hb.trans (hb2.mono hb.size)⟩, hb.size⟩
/-- A set made by the law, put in. -/
theorem HoldR.put {w : World} {B tb : Nat} {T : TabS} {n : Nat} {wr w' : World} (h : HoldR w B tb T n wr) (hn : n ≤ 1000000) {b l c : Nat} {x : List Att} (hb : Below wr.heap.size wr w') (hlt : wr.heap.size ≤ b) (hR : Arow w' (.slice (some ⟨b, 0, none⟩) l c) x) (hW : ∀ a ∈ x, AttW a) (hm : may5 T.ks x = 0) {i : Nat} (hi : T.idOf x = i) (hB : w.heap.size ≤ B) :
    Calls Tryd.prog 14 #[.pointer (some ⟨tb, 0, none⟩), .slice (some ⟨b, 0, none⟩) l c] w' fun e w2 => e = .returned (.tuple #[.int .i64 (i : Nat), .int .i64 0]) ∧ HoldR w B tb (T.add x) (n + 1) w2 :=
  (addB_ok _ x wr w' h.t hb hR hW hn (h.tab.on (hb.mono h.t.hB)) (outs_new (fun hk => by omega)) hm hi).mono fun e w2 ⟨p1, p2, p3⟩ => ⟨p1, p2, (h.tab.on (hb.mono h.t.hB)).on p3, (below_add h.bel hb h.bel.size).trans (p3.mono hB)⟩
theorem rem_fact (a : Int) (m : Nat) (h : 0 < m) : ∃ u g : Nat, IntKind.u64.wrap a = (u : Int) ∧ (u : Int) % (m : Int) = (g : Int) ∧ g < m := by
  have h0 := IntKind.wrap_u64 a
  refine ⟨(IntKind.u64.wrap a).toNat, (IntKind.u64.wrap a).toNat % m, ?_, by simp, Nat.mod_lt _ h⟩
  rw [h0]
  omega

set_option maxRecDepth 100000 in
set_option maxHeartbeats 2000000 in
theorem reuse_walk (n gone : Int) (w : World) (ht : Tab w.heap.size w) :
    Calls Tryd.prog 8 #[.int .i64 n, .int .i64 gone] w fun e w' => e = .returned (.bool true) ∧ Below w.heap.size w w' := by
  have HT := Lib.hid ht
  by_cases hr : 1 ≤ n ∧ n ≤ 40
  · obtain ⟨m, rfl⟩ : ∃ m : Nat, n = m := ⟨n.toNat, by omega⟩
    have hm0 : 0 < m := by omega
    have hm : m ≤ 40 := by omega
    have e1 : decide ((m : Int) < 1) = false := by rw [decide_eq_false_iff_not]; omega
    have e2 : decide (40 < (m : Int)) = false := by rw [decide_eq_false_iff_not]; omega
    obtain ⟨u, g, hu, hg, hgm⟩ := rem_fact gone m hm0
    have hw1 : IntKind.u64.wrap (m : Int) = m := IntWalk.u64_in _ (by omega)
    have hm1 : ((m : Int) == 0) = false := by simp; omega
    have hb0 := (Below.refl w.heap.size w).alloc (Nat.le_refl _) (.cells (flat [textK]).toArray 67)
    have HN := Lib.hid (new_yes (krow_built w 67 [textK] (by decide)) textKW textGood)
    have hkf : (flat [textK]).toArray = #[.int .i64 3, .bool false, .int .u8 4, .bool false, .bool false, .int .i64 0] := rfl
    rw [hkf] at HN hb0
    have HB0 := Lib.hid hb0
    clear hkf hb0 ht hr
    go_enter Tryd.func8, Tryd.ntmps8
    go_wp2_with (go_at_call 9; refine HN.out.mono ?_; rintro e w1 ⟨s, rfl, hs, hb1⟩; refine Hid.out ?_)
    have HS := Lib.hid hs
    have B1 := Lib.hid (below_add HB0.out hb1 HB0.out.size)
    clear hs hb1 HN HB0
    refine Lib.hid ?_
    go_wp2_with (go_at_call 12; refine (begin_any _ w w1 _ HS.out B1.out HT.out).mono ?_; rintro e w2 ⟨tb, rfl, hR2, hsz⟩; refine Hid.out ?_)
    generalize w1.heap.size = B at *
    have R2 := Lib.hid (show HoldR w B tb (rT 0) 0 w2 from hR2)
    have HWB := Lib.hid hsz
    clear hR2 hsz HS B1
    refine Lib.hid ?_
    go_wp2
    go_loopw [39] (fun s39 wr => ∃ k : Nat, k ≤ m ∧ s39 = .int .i64 k ∧ HoldR w B tb (rT k) k wr) (fun s39 _ => m - (intOf s39).toNat)
    case atStart => exact ⟨0, Nat.zero_le _, rfl, R2.out⟩
    case round =>
      obtain ⟨k, hk, rfl, hR⟩ := hrel
      by_cases hlt : k < m
      · have HR := Lib.hid hR
        clear hR
        go_wp2_with (go_at_call 27; refine (reuse_set k (by omega) wr).mono ?_; rintro e w3 ⟨b, hb, rfl, hrow, hbel⟩; refine Hid.out ?_)
        have HA := Lib.hid (HR.out.put (by omega) hbel hb hrow (sA_W k) (sA_may (by omega)) (rT_add (by omega)).2 HWB.out)
        rw [(rT_add (by omega)).1] at HA
        clear hb hrow hbel
        refine Lib.hid ?_
        go_wp2_with (go_at_call 14; refine HA.out.mono ?_; rintro e w4 ⟨rfl, hR4⟩; refine Hid.out ?_)
        have R4 := Lib.hid hR4
        clear hR4 HA
        refine Lib.hid ?_
        go_wp2
        go_roundw
        case rel => exact ⟨k + 1, by omega, by go_num, R4.out⟩
        case measure => simp [intOf]; omega
      · obtain rfl : k = m := by omega
        have HF := Lib.hid (freeB_ok (g + 1) wr hR.t (by omega) hR.tab (rT_has hgm))
        rw [rT_less hgm] at HF
        have HR := Lib.hid hR
        clear hR
        go_wp2_with (go_at_call 16; refine HF.out.mono ?_; rintro e w5 ⟨rfl, hT5, hb5⟩; refine Hid.out ?_)
        have R5 := Lib.hid (HR.out.mk' HWB.out hT5 hb5)
        clear hT5 hb5 HF
        refine Lib.hid ?_
        go_wp2_with (go_at_call 27; refine (reuse_set k (by omega) w5).mono ?_; rintro e w6 ⟨b6, hb, rfl, hrow, hbel⟩; refine Hid.out ?_)
        have HA := Lib.hid (R5.out.put (by omega) hbel hb hrow (sA_W k) (sA_may (by omega)) (rG_add hgm (by omega)).2 HWB.out)
        rw [(rG_add hgm (by omega)).1] at HA
        clear hb hrow hbel
        refine Lib.hid ?_
        go_wp2_with (go_at_call 14; refine HA.out.mono ?_; rintro e w7 ⟨rfl, hR7⟩; refine Hid.out ?_)
        have R7 := Lib.hid hR7
        have HS2 := Lib.hid (reuse_set (k + 1) (by omega) w7)
        rw [show (((k + 1 : Nat)) : Int) = (k : Int) + 1 by omega] at HS2
        clear hR7 HA
        refine Lib.hid ?_
        go_wp2_with (go_at_call 27; refine HS2.out.mono ?_; rintro e w8 ⟨b8, hb, rfl, hrow, hbel⟩; refine Hid.out ?_)
        have HA := Lib.hid (R7.out.put (by omega) hbel hb hrow (sA_W (k + 1)) (sA_may (by omega)) (rH_add hgm (by omega)).1 HWB.out)
        clear hb hrow hbel
        refine Lib.hid ?_
        go_wp2_with (go_at_call 14; refine HA.out.mono ?_; rintro e w9 ⟨rfl, hR9⟩; refine Hid.out ?_)
        have HL := Lib.hid (lenB w9 hR9.t)
        rw [(rH_add hgm (by omega)).2] at HL
        have HK := Lib.hid (known7_any w9 (hR9.tab.mono hR9.t.hB))
        have R9 := Lib.hid hR9
        clear hR9 HA
        refine Lib.hid ?_
        go_wp2_with (first
          | (go_at_call 24; refine HL.out.mono ?_; rintro e w8 ⟨rfl, hw⟩; subst hw)
          | (go_at_call 11; refine HK.out.mono ?_; rintro e w10 ⟨rfl, hb10⟩))
        go_ret
        exact ⟨rfl, below_add R9.out.bel hb10 R9.out.bel.size⟩
  · have HK := Lib.hid (known7_any w ht)
    clear ht
    by_cases h0 : n < 1
    · have e1 : decide (n < 1) = true := by simpa using h0
      clear hr
      go_enter Tryd.func8, Tryd.ntmps8
      go_wp2_with (go_at_call 11; refine HK.out.mono ?_; rintro e w9 ⟨rfl, hb9⟩)
      go_ret
      exact ⟨rfl, hb9⟩
    · have e1 : decide (n < 1) = false := by simpa using h0
      have e2 : decide (40 < n) = true := by rw [decide_eq_true_iff]; omega
      clear hr
      go_enter Tryd.func8, Tryd.ntmps8
      go_wp2_with (go_at_call 11; refine HK.out.mono ?_; rintro e w9 ⟨rfl, hb9⟩)
      go_ret
      exact ⟨rfl, hb9⟩
end Go.Proofs.YtiobcifpebehnaaDoor
