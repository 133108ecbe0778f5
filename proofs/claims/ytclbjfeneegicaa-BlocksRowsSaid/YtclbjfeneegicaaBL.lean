
import Derived.Test.YtclbjfeneegicaaBK
/- BL: BlocksPlaces -/
namespace Go.Proofs.Ytclbjfeneegicaa
open Go.RowKit
set_option linter.unusedVariables false
set_option maxRecDepth 100000

theorem at_opt (v : Value) (zs : List Bz) (k : Nat) (w : World) (hv : Zrow w v zs) (hl : zs.length ≤ 1000) (hn : ∀ z ∈ zs, z.n ≤ 1125899906842624) (hs : ∀ z ∈ zs, z.s.length ≤ 1000) (hk : k ≤ 9223372036854775807) {p : List (List Att)} (he : ex (zs.map Bz.b) = p) :
    Calls Try.prog 10 #[v, .int .i64 (k : Nat)] w fun e w' => ∃ a s c, e = .returned (.tuple #[.slice a (List.length s) c, .bool (decide (k < p.length))]) ∧ Arow w' (.slice a (List.length s) c) s ∧ (k < p.length → p[k]? = some s) ∧ Below w.heap.size w w' :=
  (at_tame v zs k w hv hl hn hs (by omega)).mono fun e w' h => by
    rw [he] at h
    rw [show (k : Int).toNat = k by omega] at h
    rcases h.2 with ⟨s, a, c, -, q, rfl, ho⟩ | ⟨hh, rfl⟩
    · have hlt := (List.getElem?_eq_some_iff.1 q).1
      exact ⟨a, s, c, by rw [decide_eq_true hlt], att_row ho, fun _ => q, h.1⟩
    · have hnl : ¬ k < p.length := by omega
      exact ⟨none, [], 0, by rw [decide_eq_false hnl]; rfl, Row.nil _, fun hq => absurd hq hnl, h.1⟩
/-- The same as far as k places go. -/
def eqK (A B : List (List Att)) (k : Nat) : Prop := A.length = B.length ∧ A.take k = B.take k
instance (A B : List (List Att)) (k : Nat) : Decidable (eqK A B k) := by unfold eqK; infer_instance
theorem eqk_start (A B : List (List Att)) : eqK A B 0 ↔ A.length = B.length := by unfold eqK; simp
theorem eqk_end (A B : List (List Att)) : eqK A B A.length ↔ A = B := by
  unfold eqK
  constructor
  · rintro ⟨h1, h2⟩
    rw [List.take_of_length_le (Nat.le_refl _), h1, List.take_of_length_le (Nat.le_refl _)] at h2
    exact h2
  · rintro rfl; exact ⟨rfl, rfl⟩
theorem eqk_back {A B : List (List Att)} {k : Nat} (h : eqK A B (k + 1)) : eqK A B k := ⟨h.1, by
  have := congrArg (List.take k) h.2
  rw [List.take_take, List.take_take, Nat.min_eq_left (Nat.le_succ k)] at this
  exact this⟩
theorem eqk_step {A B : List (List Att)} {k : Nat} (h : eqK A B k) {x z : List Att} (hx : A[k]? = some x) (hz : B[k]? = some z) : eqK A B (k + 1) ↔ x = z := by
  obtain ⟨ha, ea⟩ := List.getElem?_eq_some_iff.1 hx
  obtain ⟨hb, eb⟩ := List.getElem?_eq_some_iff.1 hz
  unfold eqK
  rw [List.take_succ_eq_append_getElem ha, List.take_succ_eq_append_getElem hb, ea, eb, h.2]
  simp [h.1]
theorem few_step {zs : List Bz} {k : Nat} (h : k < zs.length) (hp : ∀ z ∈ zs.take k, z.n ≤ 20) (hz : zs[k].n ≤ 20) : ∀ z ∈ zs.take (k + 1), z.n ≤ 20 := by
  intro z hm
  rw [List.take_succ_eq_append_getElem h] at hm
  rcases List.mem_append.1 hm with hm | hm
  · exact hp z hm
  · obtain rfl := List.mem_singleton.1 hm
    exact hz
set_option maxHeartbeats 4000000 in
theorem places_walk (va vb : Value) (xs ys : List Bz) (w : World) (ha : Zrow w va xs) (hb : Zrow w vb ys) :
    Calls Try.prog 6 #[va, vb] w fun e w' => e = .returned (.bool true) ∧ Below w.heap.size w w' := by
  have hlx : xs.length ≤ 9223372036854775807 := ha.row.len
  have hly : ys.length ≤ 9223372036854775807 := hb.row.len
  have HTA := Lib.hid (tame_any va xs w ha)
  have HTB := Lib.hid (tame_any vb ys w hb)
  obtain ⟨aa, ac, rfl⟩ := ha.shape
  obtain ⟨ba, bc, rfl⟩ := hb.shape
  have HA := Lib.hid ha
  have HB := Lib.hid hb
  have HK0 := Lib.hid (kn_end (Below.refl w.heap.size w))
  clear ha hb
  by_cases h1 : 60 < xs.length
  · have g1 : decide ((60 : Int) < (xs.length : Int)) = true := by rw [decide_eq_true_iff]; omega
    go_enter Try.func6, Try.ntmps6
    go_wp2_with (go_at_call 12; refine HK0.out.mono ?_; rintro e w1 ⟨rfl, hb1⟩)
    go_ret
    exact ⟨rfl, hb1⟩
  have g1 : decide ((60 : Int) < (xs.length : Int)) = false := by rw [decide_eq_false_iff_not]; omega
  by_cases h2 : 60 < ys.length
  · have g2 : decide ((60 : Int) < (ys.length : Int)) = true := by rw [decide_eq_true_iff]; omega
    go_enter Try.func6, Try.ntmps6
    go_wp2_with (go_at_call 12; refine HK0.out.mono ?_; rintro e w1 ⟨rfl, hb1⟩)
    go_ret
    exact ⟨rfl, hb1⟩
  have g2 : decide ((60 : Int) < (ys.length : Int)) = false := by rw [decide_eq_false_iff_not]; omega
  by_cases hta : ¬ Tame xs
  · rw [decide_eq_false hta] at HTA
    clear hta
    go_enter Try.func6, Try.ntmps6
    go_wp2_with (first
      | (go_at_call 8; (with_reducible refine HTA.out.mono ?_); rintro e w1 ⟨rfl, hw⟩; have hw := hw.symm; subst hw)
      | (go_at_call 12; refine HK0.out.mono ?_; rintro e w1 ⟨rfl, hb1⟩))
    go_ret
    exact ⟨rfl, hb1⟩
  have hta := Decidable.not_not.1 hta
  rw [decide_eq_true hta] at HTA
  by_cases htb : ¬ Tame ys
  · rw [decide_eq_false htb] at HTB
    clear htb hta
    go_enter Try.func6, Try.ntmps6
    go_wp2_with (first
      | (go_at_call 8; (with_reducible refine HTA.out.mono ?_); rintro e w1 ⟨rfl, hw⟩; have hw := hw.symm; subst hw)
      | (go_at_call 8; (with_reducible refine HTB.out.mono ?_); rintro e w1 ⟨rfl, hw⟩; have hw := hw.symm; subst hw)
      | (go_at_call 12; refine HK0.out.mono ?_; rintro e w1 ⟨rfl, hb1⟩))
    go_ret
    exact ⟨rfl, hb1⟩
  have htb := Decidable.not_not.1 htb
  rw [decide_eq_true htb] at HTB
  have HTX := Lib.hid hta.p
  have HTY := Lib.hid htb.p
  clear hta htb
  go_enter Try.func6, Try.ntmps6
  go_upto_region 3 with (first
    | (go_at_call 8; (with_reducible refine HTA.out.mono ?_); rintro e w1 ⟨rfl, hw⟩; have hw := hw.symm; subst hw)
    | (go_at_call 8; (with_reducible refine HTB.out.mono ?_); rintro e w1 ⟨rfl, hw⟩; have hw := hw.symm; subst hw))
  go_wp2_with fail
  go_loop [38] (fun i => ∃ k : Nat, k ≤ xs.length ∧ i = .int .i64 k ∧ Hid (∀ z ∈ xs.take k, z.n ≤ 20)) (fun i => xs.length - (intOf i).toNat)
  case atStart => exact ⟨0, Nat.zero_le _, rfl, Lib.hid (by simp)⟩
  case round =>
    obtain ⟨k, hk, rfl, HP⟩ := hrel
    by_cases hlt : k < xs.length
    · obtain ⟨b, off, hab, -, -, -, hbl, hat⟩ := HA.out.opn (by omega)
      subst hab
      obtain ⟨c0, -, -⟩ := hat k hlt
      have HST := Lib.hid (fun h => few_step hlt HP.out h)
      have g7 : decide ((k : Int) < (xs.length : Int)) = true := by rw [decide_eq_true_iff]; omega
      obtain ⟨z, hz⟩ : ∃ z, xs[k] = z := ⟨_, rfl⟩
      rw [hz] at c0 HST
      clear hat hz
      by_cases h3 : 20 < z.n
      · have g3 : decide (20 < z.n) = true := decide_eq_true h3
        clear HST
        go_wp2_with (go_at_call 12; refine HK0.out.mono ?_; rintro e w5 ⟨rfl, hb5⟩)
        go_ret
        exact ⟨rfl, hb5⟩
      · have g3 : decide (20 < z.n) = false := decide_eq_false h3
        have HB2 := Lib.hid (HST.out (by omega))
        clear HST
        go_wp2
        go_round
        case rel => exact ⟨k + 1, by omega, by go_num, HB2⟩
        case measure => simp [intOf]; omega
    · obtain rfl : k = xs.length := by omega
      have g7 : decide ((xs.length : Int) < (xs.length : Int)) = false := by rw [decide_eq_false_iff_not]; omega
      clear HP hlt hk
      go_wp2_with fail
      go_loop [51] (fun i => ∃ k : Nat, k ≤ ys.length ∧ i = .int .i64 k ∧ Hid (∀ z ∈ ys.take k, z.n ≤ 20)) (fun i => ys.length - (intOf i).toNat)
      case atStart => exact ⟨0, Nat.zero_le _, rfl, Lib.hid (by simp)⟩
      case round =>
        obtain ⟨k, hk, rfl, HP⟩ := hrel
        by_cases hlt : k < ys.length
        · obtain ⟨b, off, hab, -, -, -, hbl, hat⟩ := HB.out.opn (by omega)
          subst hab
          obtain ⟨c0, -, -⟩ := hat k hlt
          have HST := Lib.hid (fun h => few_step hlt HP.out h)
          have g7 : decide ((k : Int) < (ys.length : Int)) = true := by rw [decide_eq_true_iff]; omega
          obtain ⟨z, hz⟩ : ∃ z, ys[k] = z := ⟨_, rfl⟩
          rw [hz] at c0 HST
          clear hat hz
          by_cases h3 : 20 < z.n
          · have g3 : decide (20 < z.n) = true := decide_eq_true h3
            clear HST
            go_wp2_with (go_at_call 12; refine HK0.out.mono ?_; rintro e w5 ⟨rfl, hb5⟩)
            go_ret
            exact ⟨rfl, hb5⟩
          · have g3 : decide (20 < z.n) = false := decide_eq_false h3
            have HB2 := Lib.hid (HST.out (by omega))
            clear HST
            go_wp2
            go_round
            case rel => exact ⟨k + 1, by omega, by go_num, HB2⟩
            case measure => simp [intOf]; omega
        · obtain rfl : k = ys.length := by omega
          have g7 : decide ((ys.length : Int) < (ys.length : Int)) = false := by rw [decide_eq_false_iff_not]; omega
          clear HP hlt hk
          obtain ⟨A, hA⟩ : ∃ A, ex (xs.map Bz.b) = A := ⟨_, rfl⟩
          obtain ⟨B, hB⟩ : ∃ B, ex (ys.map Bz.b) = B := ⟨_, rfl⟩
          have HXA := Lib.hid hA
          have HYB := Lib.hid hB
          have hAb : A.length ≤ 1125899906842624 := by rw [← hA]; exact HTX.out.p
          have hBb : B.length ≤ 1125899906842624 := by rw [← hB]; exact HTY.out.p
          clear hA hB
          have HJX := Lib.hid (join_any _ xs w HA.out HTX.out.l2 HTX.out.n HTX.out.s)
          have HJY := Lib.hid (fun w2 (hb : Below w.heap.size w w2) => join_any _ ys w2 (HB.out.below hb) HTY.out.l2 HTY.out.n HTY.out.s)
          have HLX := Lib.hid (fun w2 (hb : Below w.heap.size w w2) => (len_any _ xs w2 (HA.out.below hb) (fun z hz => Int.le_trans (HTX.out.n z hz) (by decide))).mono fun e w' hh => (show e = .returned (.int .i64 (A.length : Nat)) ∧ Below w2.heap.size w2 w' from ⟨by rw [hh.1, len_tame HTX.out.l2 HTX.out.n, HXA.out], hh.2⟩))
          have HLY := Lib.hid (fun w2 (hb : Below w.heap.size w w2) => (len_any _ ys w2 (HB.out.below hb) (fun z hz => Int.le_trans (HTY.out.n z hz) (by decide))).mono fun e w' hh => (show e = .returned (.int .i64 (B.length : Nat)) ∧ Below w2.heap.size w2 w' from ⟨by rw [hh.1, len_tame HTY.out.l2 HTY.out.n, HYB.out], hh.2⟩))
          go_upto_region 17 with (first
            | (go_at_call 14; (with_reducible refine HJX.out.mono ?_); rintro e w2 ⟨pa, pc, zp, rfl, q1, q2, q3, q4⟩; have HP2 := Lib.hid q1.zrow; have HPR := Lib.hid q2; have HPL := Lib.hid q3; have HB2 := Lib.hid q4; clear q1 q2 q3 q4)
            | (go_at_call 14; (with_reducible refine (HJY.out w2 HB2.out).mono ?_); rintro e w3 ⟨qa, qc, zq, rfl, q1, q2, q3, q4⟩; have HP3 := Lib.hid (HP2.out.below q4); have HQ3 := Lib.hid q1.zrow; have HQR := Lib.hid q2; have HB3 := Lib.hid (bl2 HB2.out q4); clear q1 q2 q3 q4)
            | (go_at_call 11; (with_reducible refine (HLX.out w3 HB3.out).mono ?_); rintro e w4 ⟨rfl, hb⟩; have HP4 := Lib.hid (HP3.out.below hb); have HQ4 := Lib.hid (HQ3.out.below hb); have HB4 := Lib.hid (bl2 HB3.out hb); clear hb)
            | (go_at_call 11; (with_reducible refine (HLY.out w4 HB4.out).mono ?_); rintro e w5 ⟨rfl, hb⟩; have HP5 := Lib.hid (HP4.out.below hb); have HQ5 := Lib.hid (HQ4.out.below hb); have HB5 := Lib.hid (bl2 HB4.out hb); clear hb))
          have HPB := Lib.hid (part_bounds HTX.out HPR.out (Nat.le_refl _) (fun _ h => h))
          have HPL2 := Lib.hid (show zp.length ≤ 1000 from by have := HPL.out; have := HTX.out.l; omega)
          have HPX := Lib.hid (show ex (zp.map Bz.b) = A from by rw [HPR.out.ex, HXA.out])
          have HS0 := Lib.hid (show ((A.length : Int) == (B.length : Int)) = decide (eqK A B 0) from by
            rw [Bool.eq_iff_iff, decide_eq_true_iff, eqk_start, beq_iff_eq]; omega)
          go_wp2_with fail
          have hs0 := HS0.out
          go_loopw [9, 10] (fun s9 s10 wr => ∃ k : Nat, k ≤ A.length ∧ s10 = .int .i64 k ∧ s9 = .bool (decide (eqK A B k)) ∧ Hid (Zrow wr (.slice pa zp.length pc) zp ∧ Zrow wr (.slice qa zq.length qc) zq ∧ Below w.heap.size w wr)) (fun s9 s10 _ => A.length - (intOf s10).toNat)
          case atStart => exact ⟨0, Nat.zero_le _, rfl, by rw [← HS0.out], Lib.hid ⟨HP5.out, HQ5.out, HB5.out⟩⟩
          case round =>
            obtain ⟨k, hk, rfl, rfl, HR⟩ := hrel
            rename_i wr
            clear hs0
            have HL6 := Lib.hid (HLX.out wr HR.out.2.2)
            by_cases hlt : k < A.length
            · have g7 : decide ((k : Int) < (A.length : Int)) = true := by rw [decide_eq_true_iff]; omega
              have HAX := Lib.hid (fun w2 (hb : Below w.heap.size w w2) => (at_opt _ xs k w2 (HA.out.below hb) HTX.out.l2 HTX.out.n HTX.out.s (by omega) HXA.out).mono fun e w' hh => (show ∃ a s c, e = .returned (.tuple #[.slice a (List.length s) c, .bool true]) ∧ Arow w' (.slice a (List.length s) c) s ∧ A[k]? = some s ∧ Below w2.heap.size w2 w' from by obtain ⟨a, s, c, q1, q2, q3, q4⟩ := hh; exact ⟨a, s, c, by rw [q1, decide_eq_true hlt], q2, q3 hlt, q4⟩))
              have HAP := Lib.hid (fun w2 (hz : Zrow w2 (.slice pa zp.length pc) zp) => (at_opt _ zp k w2 hz HPL2.out HPB.out.1 HPB.out.2 (by omega) HPX.out).mono fun e w' hh => (show ∃ a s c, e = .returned (.tuple #[.slice a (List.length s) c, .bool true]) ∧ Arow w' (.slice a (List.length s) c) s ∧ A[k]? = some s ∧ Below w2.heap.size w2 w' from by obtain ⟨a, s, c, q1, q2, q3, q4⟩ := hh; exact ⟨a, s, c, by rw [q1, decide_eq_true hlt], q2, q3 hlt, q4⟩))
              have HAY := Lib.hid (fun w2 (hb : Below w.heap.size w w2) => at_opt _ ys k w2 (HB.out.below hb) HTY.out.l2 HTY.out.n HTY.out.s (by omega) HYB.out)
              go_upto_region 22 with (first
                | (go_at_call 11; (with_reducible refine HL6.out.mono ?_); rintro e w6 ⟨rfl, hb⟩; have HR6 := Lib.hid (show Zrow w6 (.slice pa zp.length pc) zp ∧ Zrow w6 (.slice qa zq.length qc) zq ∧ Below w.heap.size w w6 from ⟨HR.out.1.below hb, HR.out.2.1.below hb, bl2 HR.out.2.2 hb⟩); clear hb)
                | (go_at_call 10; (with_reducible refine (HAX.out w6 HR6.out.2.2).mono ?_); rintro e w7 ⟨xa, sx, xc, rfl, q1, q2, hb⟩; have HX7 := Lib.hid q1; have HXE := Lib.hid q2; have HR7 := Lib.hid (show Zrow w7 (.slice pa zp.length pc) zp ∧ Zrow w7 (.slice qa zq.length qc) zq ∧ Below w.heap.size w w7 from ⟨HR6.out.1.below hb, HR6.out.2.1.below hb, bl2 HR6.out.2.2 hb⟩); clear q1 q2 hb)
                | (go_at_call 10; (with_reducible refine (HAP.out w7 HR7.out.1).mono ?_); rintro e w8 ⟨ya, sy, yc, rfl, q1, q2, hb⟩; have HSM8 := Lib.hid ((rsame_anyB _ _ sx sy w8 (HX7.out.below hb (Nat.le_refl _)) q1).mono fun e w' hh => (show e = .returned (.bool true) ∧ Below w8.heap.size w8 w' from ⟨by rw [hh.1, decide_eq_true (Option.some.inj (HXE.out.symm.trans q2))], hh.2⟩)); have HX8 := Lib.hid (HX7.out.below hb (Nat.le_refl _)); have HR8 := Lib.hid (show Zrow w8 (.slice pa zp.length pc) zp ∧ Zrow w8 (.slice qa zq.length qc) zq ∧ Below w.heap.size w w8 from ⟨HR7.out.1.below hb, HR7.out.2.1.below hb, bl2 HR7.out.2.2 hb⟩); clear q1 q2 hb))
              by_cases heq : eqK A B k
              · have g8 : decide (eqK A B k) = true := decide_eq_true heq
                have hkB : k < B.length := by rw [← heq.1]; exact hlt
                have g9 : decide (k < B.length) = true := decide_eq_true hkB
                have HEQ := Lib.hid heq
                clear heq
                go_wp2_with (first
                  | (go_at_call 21; (with_reducible refine HSM8.out.mono ?_); rintro e w9 ⟨rfl, hb⟩; have HX9 := Lib.hid (HX8.out.below hb (Nat.le_refl _)); have HR9 := Lib.hid (show Zrow w9 (.slice pa zp.length pc) zp ∧ Zrow w9 (.slice qa zq.length qc) zq ∧ Below w.heap.size w w9 from ⟨HR8.out.1.below hb, HR8.out.2.1.below hb, bl2 HR8.out.2.2 hb⟩); clear hb)
                  | (go_at_call 10; (with_reducible refine (HAY.out w9 HR9.out.2.2).mono ?_); rintro e w10 ⟨za, sz, zc, rfl, q1, q2, hb⟩; have HSZ := Lib.hid (rsame_anyB _ _ sx sz w10 (HX9.out.below hb (Nat.le_refl _)) q1); have HST := Lib.hid (eqk_step HEQ.out HXE.out (q2 hkB)); have HR10 := Lib.hid (show Zrow w10 (.slice pa zp.length pc) zp ∧ Zrow w10 (.slice qa zq.length qc) zq ∧ Below w.heap.size w w10 from ⟨HR9.out.1.below hb, HR9.out.2.1.below hb, bl2 HR9.out.2.2 hb⟩); clear q1 q2 hb)
                  | (go_at_call 21; (with_reducible refine HSZ.out.mono ?_); rintro e w11 ⟨rfl, hb⟩; have HR11 := Lib.hid (show Zrow w11 (.slice pa zp.length pc) zp ∧ Zrow w11 (.slice qa zq.length qc) zq ∧ Below w.heap.size w w11 from ⟨HR10.out.1.below hb, HR10.out.2.1.below hb, bl2 HR10.out.2.2 hb⟩); clear hb))
                go_roundw
                case rel => exact ⟨k + 1, by omega, by go_num, by congr 1; rw [Bool.eq_iff_iff, decide_eq_true_iff, decide_eq_true_iff]; exact HST.out.symm, HR11⟩
                case measure => simp [intOf]; omega
              · have g8 : decide (eqK A B k) = false := decide_eq_false heq
                have HNK := Lib.hid (show decide (eqK A B (k + 1)) = false from decide_eq_false (fun h => heq (eqk_back h)))
                clear heq
                go_wp2_with (first
                  | (go_at_call 21; (with_reducible refine HSM8.out.mono ?_); rintro e w9 ⟨rfl, hb⟩; have HR9 := Lib.hid (show Zrow w9 (.slice pa zp.length pc) zp ∧ Zrow w9 (.slice qa zq.length qc) zq ∧ Below w.heap.size w w9 from ⟨HR8.out.1.below hb, HR8.out.2.1.below hb, bl2 HR8.out.2.2 hb⟩); clear hb)
                  | (go_at_call 10; (with_reducible refine (HAY.out w9 HR9.out.2.2).mono ?_); rintro e w10 ⟨za, sz, zc, rfl, q1, q2, hb⟩; have HR10 := Lib.hid (show Zrow w10 (.slice pa zp.length pc) zp ∧ Zrow w10 (.slice qa zq.length qc) zq ∧ Below w.heap.size w w10 from ⟨HR9.out.1.below hb, HR9.out.2.1.below hb, bl2 HR9.out.2.2 hb⟩); clear q1 q2 hb))
                go_roundw
                case rel => exact ⟨k + 1, by omega, by go_num, by rw [HNK.out], HR10⟩
                case measure => simp [intOf]; omega
            · obtain rfl : k = A.length := by omega
              have g7 : decide ((A.length : Int) < (A.length : Int)) = false := by rw [decide_eq_false_iff_not]; omega
              have HSE := Lib.hid (fun w2 (hz1 : Zrow w2 (.slice pa zp.length pc) zp) (hz2 : Zrow w2 (.slice qa zq.length qc) zq) => (rsame_any _ _ zp zq w2 hz1 hz2).mono fun e w' hh => (show e = .returned (.bool (decide (eqK A B A.length))) ∧ Below w2.heap.size w2 w' from ⟨by rw [hh.1]; congr 2; rw [Bool.eq_iff_iff, decide_eq_true_iff, decide_eq_true_iff, eqk_end, HPR.out.iff HQR.out, HXA.out, HYB.out], hh.2⟩))
              obtain ⟨d, hd⟩ : ∃ d, decide (eqK A B A.length) = d := ⟨_, rfl⟩
              rw [hd] at HSE ⊢
              clear hd
              go_wp2_with (first
                | (go_at_call 11; (with_reducible refine HL6.out.mono ?_); rintro e w6 ⟨rfl, hb⟩; have HR6 := Lib.hid (show Zrow w6 (.slice pa zp.length pc) zp ∧ Zrow w6 (.slice qa zq.length qc) zq ∧ Below w.heap.size w w6 from ⟨HR.out.1.below hb, HR.out.2.1.below hb, bl2 HR.out.2.2 hb⟩); clear hb)
                | (go_at_call 18; (with_reducible refine (HSE.out w6 HR6.out.1 HR6.out.2.1).mono ?_); rintro e w7 ⟨rfl, hb⟩; have HB7 := Lib.hid (bl2 HR6.out.2.2 hb); clear hb)
                | (go_at_call 12; (with_reducible refine (kn_end HB7.out).mono ?_); rintro e w8 ⟨rfl, hb8⟩))
              go_ret
              exact ⟨rfl, hb8⟩
end Go.Proofs.Ytclbjfeneegicaa
