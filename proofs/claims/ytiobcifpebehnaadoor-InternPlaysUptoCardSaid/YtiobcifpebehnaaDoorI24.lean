
import Derived.Test.YtiobcifpebehnaaDoorIF
import Derived.Test.YtiobcifpebehnaaDoorA4
/- I24: InternStays' walk -/
namespace Go.Proofs.YtiobcifpebehnaaDoor
open Go.RowKit
set_option linter.unusedVariables false

/-- An argument's set, put in. -/
def ArgP (w : World) (B tb : Nat) (T : TabS) (n : Nat) (x : List Att) (e : Ending) (w2 : World) : Prop :=
  (may5 T.ks x ≠ 0 ∧ e = .returned (.tuple #[.int .i64 0, .int .i64 (may5 T.ks x)]) ∧ HoldR w B tb T n w2) ∨
  (may5 T.ks x = 0 ∧ e = .returned (.tuple #[.int .i64 (T.idOf x : Nat), .int .i64 0]) ∧ HoldR w B tb (T.add x) (n + 1) w2)
theorem HoldR.arg {w : World} {B tb : Nat} {T : TabS} {n : Nat} {wr : World} (h : HoldR w B tb T n wr) (hn : n ≤ 1000000) {v : Value} {x : List Att} (hv : Arow w v x) (hW : ∀ a ∈ x, AttW a) (hB : w.heap.size ≤ B) :
    Calls Tryd.prog 14 #[.pointer (some ⟨tb, 0, none⟩), v] wr (ArgP w B tb T n x) := by
  have hv' : Arow wr v x := hv.below h.bel (Nat.le_refl _)
  have hBw := h.t.hB
  have key : Calls Tryd.prog 14 #[.pointer (some ⟨tb, 0, none⟩), v] wr (AddB B tb T n x wr) := by
    rcases outs_below hv hB (S := fun k => B ≤ k ∧ k < wr.heap.size) (fun k hk => hk.1) with ho | hx
    · exact addB v x wr wr h.t (Below.refl _ _) hv' hW hn h.tab ho
    · have conv : ∀ e w', AddP B (fun k => B ≤ k) tb T n x wr e w' → AddB B tb T n x wr e w' := fun e w' hP => by
        rcases hP with ⟨p1, p2, p3, p4⟩ | ⟨p1, p2, p3, p4⟩
        · exact .inl ⟨p1, p2, p3, p4.mono hBw⟩
        · exact .inr ⟨p1, p2, p3.mono (fun k hk => by rcases hk with hk | hk; exact hk; show B ≤ k; omega) (fun k hk => hk), p4.below (fun k hk => hk) hBw⟩
      by_cases hm : may5 T.ks x = 0
      · have hl : T.look x = some 0 := by
          have := look_live h.t.ok (i := 0) (.inl rfl)
          rwa [h.t.ok.zero, ← hx] at this
        exact (add_there v x wr h.t hv' hW hm hn h.tab hl).mono conv
      · exact (add_bad v x wr h.t hv' hW hm).mono conv
  refine key.mono fun e w2 hP => ?_
  rcases hP with ⟨p1, p2, p3, p4⟩ | ⟨p1, p2, p3, p4⟩
  · exact .inl ⟨p1, p2, h.mk' hB p3 p4⟩
  · exact .inr ⟨p1, p2, h.mk' hB p3 p4⟩
theorem HoldR.below {w : World} {B tb : Nat} {T : TabS} {n : Nat} {wr w' : World} (h : HoldR w B tb T n wr) (hb : Below wr.heap.size wr w') : HoldR w B tb T n w' :=
  ⟨h.t.below hb, h.tab.on (hb.mono h.t.hB), below_add h.bel hb h.bel.size⟩
theorem HoldR.le {w : World} {B tb : Nat} {T : TabS} {n m : Nat} {wr : World} (h : HoldR w B tb T n wr) (hm : n ≤ m) : HoldR w B tb T m wr := by
  obtain ⟨⟨st, mb, mm, sv, fv, hs, D, t⟩, h2, h3⟩ := h
  obtain ⟨es, clock, q1, q2, q3, q4⟩ := t.hmb
  exact ⟨⟨st, mb, mm, sv, fv, hs, D, { t with hmb := ⟨es, clock, q1, q2, by omega, q4⟩, le := t.le.mono hm }⟩, h2, h3⟩
theorem below_drewN (w : World) (q : Nat) : Below w.heap.size w (w.drewN q) := blw_drewN (Below.refl _ _) q
/-- What Set told, against a set that came in. -/
theorem HoldR.told {w : World} {B tb : Nat} {T : TabS} {n : Nat} {wr : World} (h : HoldR w B tb T n wr) (hn : n ≤ 1000000) {ks : List Key} {id : Nat} {X : List Att} (hk : KeepT ks id X T) :
    Calls Tryd.prog 21 #[.pointer (some ⟨tb, 0, none⟩), .int .i64 (id : Nat)] wr fun e w' => ∃ a c, e = .returned (.tuple #[.slice a X.length c, .int .i64 0]) ∧ Arow w' (.slice a X.length c) X ∧ HoldR w B tb T n w' := by
  refine (setB (id : Nat) wr h.t hn).mono fun e w' hP => ?_
  obtain ⟨hb, ⟨-, u, he, ho⟩ | ⟨hf, -⟩⟩ := hP
  · rw [Int.toNat_natCast, hk.set] at ho
    obtain ⟨hr, -⟩ := Row.of_owns (C := attC) ho
    obtain ⟨a, c, rfl⟩ := hr.shape
    exact ⟨a, c, he, hr, h.below hb⟩
  · rw [live_has hk.live] at hf; cases hf
theorem keep_held {ks : List Key} {id : Nat} {X : List Att} {T : TabS} (hk : KeepT ks id X T) : decide (heldI T (id : Nat) < 1) = false := by
  unfold heldI
  rw [live_has hk.live, if_pos rfl, decide_eq_false_iff_not, Int.toNat_natCast]
  have := hk.one
  omega

set_option maxRecDepth 100000 in
set_option maxHeartbeats 4000000 in
theorem stays_walk (v0 v1 v2 : Value) (ks : List Key) (X : List Att) (ls : List (List Att)) (w : World) (h0 : Krow w v0 ks) (hkW : ∀ k ∈ ks, KeyW k) (h1 : Arow w v1 X) (hX : ∀ a ∈ X, AttW a) (h2 : Nrow w v2 ls) (hls : ∀ l ∈ ls, ∀ a ∈ l, AttW a) (ht : Tab w.heap.size w) :
    Calls Tryd.prog 7 #[v0, v1, v2] w fun e w' => e = .returned (.bool true) ∧ Below w.heap.size w w' := by
  have HN := Lib.hid (new_any v0 ks w h0 hkW)
  have HT := Lib.hid ht
  have HKN := Lib.hid (fun (w' : World) (hb : Below w.heap.size w w') => known7_any w' (fun w2 hb2 => ht w2 (hb.trans (hb2.mono hb.size))))
  have hl1 := h1.len
  have hl2 := h2.len
  obtain ⟨va, vc, rfl⟩ := h0.shape
  obtain ⟨xa, xc, rfl⟩ := h1.shape
  obtain ⟨la, lc, rfl⟩ := h2.shape
  have H1 := Lib.hid h1
  have HX := Lib.hid hX
  have H2 := Lib.hid h2
  have HLS := Lib.hid hls
  clear h0 h1 h2 hX hls ht hkW
  by_cases hlen : ls.length ≤ 60 ∧ X.length ≤ 70
  · obtain ⟨hlen1, hlen2⟩ := hlen
    have g1 : decide (60 < (ls.length : Int)) = false := by rw [decide_eq_false_iff_not]; omega
    have g2 : decide (70 < (X.length : Int)) = false := by rw [decide_eq_false_iff_not]; omega
    go_enter Tryd.func7, Tryd.ntmps7
    go_wp2_with (go_at_call 9; refine HN.out.mono ?_; rintro e w1 ⟨hb1, ⟨hmk, s, rfl, hs⟩ | ⟨hmk, rfl⟩⟩)
    · have HS := Lib.hid hs
      have B1 := Lib.hid hb1
      clear hs hb1 HN hmk
      go_wp2_with (go_at_call 12; refine (begin_any ks w w1 _ HS.out B1.out HT.out).mono ?_; rintro e w2 ⟨tb, rfl, hR2, hsz⟩; refine Hid.out ?_)
      generalize w1.heap.size = B at *
      have R2 := Lib.hid hR2
      have HWB := Lib.hid hsz
      clear hR2 hsz HS
      refine Lib.hid ?_
      go_wp2_with (go_at_call 14; refine (R2.out.arg (by omega) H1.out HX.out HWB.out).mono ?_; rintro e w3 (⟨hm, rfl, hR3⟩ | ⟨hm, rfl, hR3⟩); all_goals refine Hid.out ?_)
      · have hm' : ((may5 (newT ks).ks X) != 0) = true := by simpa using hm
        have R3 := Lib.hid hR3
        clear hR3 hm
        refine Lib.hid ?_
        go_wp2_with (go_at_call 11; refine (HKN.out w3 R3.out.bel).mono ?_; rintro e w9 ⟨rfl, hb9⟩)
        go_ret
        exact ⟨rfl, below_add R3.out.bel hb9 R3.out.bel.size⟩
      · have hkp := keep_first R2.out.t.ok (show (newT ks).ks = ks from rfl) X
        have hmX : may5 ks X = 0 := hm
        generalize (newT ks).idOf X = id at *
        have R3 := Lib.hid (show HoldR w B tb ((newT ks).add X) (2 * 0 + 1) w3 from hR3)
        have HKP := Lib.hid hkp
        have HMX := Lib.hid hmX
        clear hR3 hkp hm hmX R2
        refine Lib.hid ?_
        go_wp2
        go_loopw [53] (fun s53 wr => ∃ (k : Nat) (T : TabS), k ≤ ls.length ∧ s53 = .int .i64 k ∧ HoldR w B tb T (2 * k + 1) wr ∧ KeepT ks id X T) (fun s53 _ => ls.length - (intOf s53).toNat)
        case atStart => exact ⟨0, _, Nat.zero_le _, rfl, R3.out, HKP.out⟩
        case round =>
          obtain ⟨k, T, hk, rfl, hR, hK⟩ := hrel
          have HR := Lib.hid hR
          have HK := Lib.hid hK
          clear hR hK
          by_cases hlt : k < ls.length
          · obtain ⟨lb, lo, rfl, -, hcap, hmx, hlb, hat⟩ := H2.out.opn (by omega)
            obtain ⟨ya, yc, cy, hy⟩ := hat k hlt
            have cy2 := (HR.out.bel.cell (p := ⟨lb, lo + k, none⟩) hlb).trans cy
            have HY := Lib.hid hy
            have HYW := Lib.hid (HLS.out ls[k] (List.getElem_mem hlt))
            clear hat hy cy
            generalize ls[k] = Y at *
            by_cases hyl : Y.length ≤ 70
            · have g3 : decide (70 < (Y.length : Int)) = false := by rw [decide_eq_false_iff_not]; omega
              go_wp2_with (go_at_call 14; refine (HR.out.arg (by omega) HY.out HYW.out HWB.out).mono ?_; rintro e w4 (⟨hm, rfl, hR4⟩ | ⟨hm, rfl, hR4⟩); all_goals refine Hid.out ?_)
              · have hm' : ((may5 T.ks Y) == 0) = false := by simpa using hm
                have R5 := Lib.hid hR4
                generalize may5 T.ks Y = me at *
                clear hR4 hm
                refine Lib.hid ?_
                go_wp2_with (go_at_call 21; refine (R5.out.told (by omega) HK.out).mono ?_; rintro e w6 ⟨ua, uc, rfl, hrow, hR6⟩; refine Hid.out ?_)
                have HRW := Lib.hid hrow
                have R6 := Lib.hid hR6
                have HSM := Lib.hid (rsame_any5 _ _ X X w6 hrow (H1.out.below hR6.bel (Nat.le_refl _)))
                have hdx : decide (X = X) = true := by simp
                rw [hdx] at HSM
                have HHD := Lib.hid (fun q => heldB (id : Nat) (w6.drewN q) (hR6.below (below_drewN w6 q)).t (by omega))
                have hhl := keep_held HK.out
                generalize heldI T (id : Nat) = hq at *
                clear hrow hR6 hdx
                refine Lib.hid ?_
                go_wp2_with (first
                  | (go_at_call 25; refine HSM.out.mono ?_; rintro e w7 ⟨rfl, q, rfl⟩)
                  | (go_at_call 23; refine (HHD.out q).mono ?_; rintro e w8 ⟨rfl, rfl⟩))
                go_roundw
                case rel => exact ⟨k + 1, T, by omega, by go_num, (R6.out.below (below_drewN w6 q)).le (by omega), HK.out⟩
                case measure => simp [intOf]; omega
              · obtain ⟨hka, hk2⟩ := keep_add HR.out.t.ok HK.out Y
                have hlv := add_live HR.out.t.ok Y
                by_cases hpar : k % 2 = 0
                · have g4 : ((k : Int) % 2 == 0) = true := by simp; omega
                  have HF := Lib.hid (freeB_ok (T.idOf Y) w4 hR4.t (by omega) hR4.tab (live_has hlv))
                  have hkl := keep_less hR4.t.ok hka hlv hk2
                  have HK5 := Lib.hid hkl
                  have R4 := Lib.hid hR4
                  generalize T.idOf Y = kid at *
                  generalize (T.add Y).less kid = T5 at *
                  clear hR4 hm hkl hka hk2 hlv
                  refine Lib.hid ?_
                  go_wp2_with (go_at_call 16; refine HF.out.mono ?_; rintro e w5 ⟨rfl, hT5, hb5⟩; refine Hid.out ?_)
                  have R5 := Lib.hid (R4.out.mk' HWB.out hT5 hb5)
                  clear hT5 hb5
                  refine Lib.hid ?_
                  go_wp2_with (go_at_call 21; refine (R5.out.told (by omega) HK5.out).mono ?_; rintro e w6 ⟨ua, uc, rfl, hrow, hR6⟩; refine Hid.out ?_)
                  have HRW := Lib.hid hrow
                  have R6 := Lib.hid hR6
                  have HSM := Lib.hid (rsame_any5 _ _ X X w6 hrow (H1.out.below hR6.bel (Nat.le_refl _)))
                  have hdx : decide (X = X) = true := by simp
                  rw [hdx] at HSM
                  have HHD := Lib.hid (fun q => heldB (id : Nat) (w6.drewN q) (hR6.below (below_drewN w6 q)).t (by omega))
                  have hhl := keep_held HK5.out
                  generalize heldI T5 (id : Nat) = hq at *
                  clear hrow hR6 hdx
                  refine Lib.hid ?_
                  go_wp2_with (first
                    | (go_at_call 25; refine HSM.out.mono ?_; rintro e w7 ⟨rfl, q, rfl⟩)
                    | (go_at_call 23; refine (HHD.out q).mono ?_; rintro e w8 ⟨rfl, rfl⟩))
                  go_roundw
                  case rel => exact ⟨k + 1, T5, by omega, by go_num, (R6.out.below (below_drewN w6 q)).le (by omega), HK5.out⟩
                  case measure => simp [intOf]; omega
                · have g4 : ((k : Int) % 2 == 0) = false := by simp; omega
                  have HK5 := Lib.hid hka
                  have R5 := Lib.hid hR4
                  generalize T.idOf Y = kid at *
                  generalize T.add Y = T5 at *
                  clear hR4 hm hka hk2 hlv
                  refine Lib.hid ?_
                  go_wp2_with (go_at_call 21; refine (R5.out.told (by omega) HK5.out).mono ?_; rintro e w6 ⟨ua, uc, rfl, hrow, hR6⟩; refine Hid.out ?_)
                  have HRW := Lib.hid hrow
                  have R6 := Lib.hid hR6
                  have HSM := Lib.hid (rsame_any5 _ _ X X w6 hrow (H1.out.below hR6.bel (Nat.le_refl _)))
                  have hdx : decide (X = X) = true := by simp
                  rw [hdx] at HSM
                  have HHD := Lib.hid (fun q => heldB (id : Nat) (w6.drewN q) (hR6.below (below_drewN w6 q)).t (by omega))
                  have hhl := keep_held HK5.out
                  generalize heldI T5 (id : Nat) = hq at *
                  clear hrow hR6 hdx
                  refine Lib.hid ?_
                  go_wp2_with (first
                    | (go_at_call 25; refine HSM.out.mono ?_; rintro e w7 ⟨rfl, q, rfl⟩)
                    | (go_at_call 23; refine (HHD.out q).mono ?_; rintro e w8 ⟨rfl, rfl⟩))
                  go_roundw
                  case rel => exact ⟨k + 1, T5, by omega, by go_num, (R6.out.below (below_drewN w6 q)).le (by omega), HK5.out⟩
                  case measure => simp [intOf]; omega
            · have g3 : decide (70 < (Y.length : Int)) = true := by rw [decide_eq_true_iff]; omega
              go_wp2
              go_roundw
              case rel => exact ⟨k + 1, T, by omega, by go_num, HR.out.le (by omega), HK.out⟩
              case measure => simp [intOf]; omega
          · obtain rfl : k = ls.length := by omega
            have hid := keep_id HR.out.t.ok HK.out
            go_wp2_with (go_at_call 14; refine (HR.out.arg (by omega) H1.out HX.out HWB.out).mono ?_; rintro e w4 (⟨hm, rfl, hR4⟩ | ⟨hm, rfl, hR4⟩); all_goals refine Hid.out ?_)
            · rw [HK.out.ks, HMX.out] at hm
              exact absurd rfl hm
            · have R4 := Lib.hid hR4
              clear hR4 hm hid
              refine Lib.hid ?_
              go_wp2_with (go_at_call 11; refine (HKN.out w4 R4.out.bel).mono ?_; rintro e w9 ⟨rfl, hb9⟩)
              go_ret
              exact ⟨rfl, below_add R4.out.bel hb9 R4.out.bel.size⟩
    · go_wp2_with (go_at_call 11; refine (HKN.out w1 hb1).mono ?_; rintro e w9 ⟨rfl, hb9⟩)
      go_ret
      exact ⟨rfl, below_add hb1 hb9 hb1.size⟩
  · go_enter Tryd.func7, Tryd.ntmps7
    go_wp2_with (go_at_call 9; refine HN.out.mono ?_; rintro e w1 ⟨hb1, ⟨hmk, s, rfl, hs⟩ | ⟨hmk, rfl⟩⟩; all_goals refine Hid.out ?_)
    · clear hs
      refine Lib.hid ?_
      by_cases hlen1 : ls.length ≤ 60
      · have g1 : decide (60 < (ls.length : Int)) = false := by rw [decide_eq_false_iff_not]; omega
        have g2 : decide (70 < (X.length : Int)) = true := by rw [decide_eq_true_iff]; omega
        go_wp2_with (go_at_call 11; refine (HKN.out w1 hb1).mono ?_; rintro e w9 ⟨rfl, hb9⟩)
        go_ret
        exact ⟨rfl, below_add hb1 hb9 hb1.size⟩
      · have g1 : decide (60 < (ls.length : Int)) = true := by rw [decide_eq_true_iff]; omega
        go_wp2_with (go_at_call 11; refine (HKN.out w1 hb1).mono ?_; rintro e w9 ⟨rfl, hb9⟩)
        go_ret
        exact ⟨rfl, below_add hb1 hb9 hb1.size⟩
    · refine Lib.hid ?_
      go_wp2_with (go_at_call 11; refine (HKN.out w1 hb1).mono ?_; rintro e w9 ⟨rfl, hb9⟩)
      go_ret
      exact ⟨rfl, below_add hb1 hb9 hb1.size⟩
end Go.Proofs.YtiobcifpebehnaaDoor
