
import Derived.Test.YthbehjilabedoaaA8
/- A9: Concat, Clone, Copy -/
namespace Go.Proofs.Ythbehjilabedoaa
open Go.RowKit
set_option linter.unusedVariables false

@[reducible] def slV (x : Option Addr × Nat × Nat) : Value := .slice x.1 x.2.1 x.2.2
theorem flat_snoc (xss : List (List Att)) (k : Nat) (h : k < xss.length) : (xss.take (k + 1)).flatten = (xss.take k).flatten ++ xss[k] := by
  rw [List.take_succ_eq_append_getElem h, List.flatten_append]; simp only [List.flatten_cons, List.flatten_nil, List.append_nil]
theorem flat_le (xss : List (List Att)) (k : Nat) : (xss.take k).flatten.length ≤ xss.flatten.length := by
  conv => rhs; rw [← List.take_append_drop k xss]
  rw [List.flatten_append, List.length_append]; omega
theorem flat_all (xss : List (List Att)) : (xss.take xss.length).flatten = xss.flatten := by rw [List.take_of_length_le (Nat.le_refl _)]
/-- What a list of rows holds. -/
def Rows5 (w : World) (ss : List (Option Addr × Nat × Nat)) (xss : List (List Att)) : Prop :=
  ss.length = xss.length ∧ ∀ j (h1 : j < ss.length) (h2 : j < xss.length), Arow w (slV ss[j]) xss[j]
theorem Rows5.below {B : Nat} {w w' : World} {ss : List (Option Addr × Nat × Nat)} {xss : List (List Att)} (h : Rows5 w ss xss) (hb : Below B w w') (hB : w.heap.size ≤ B) : Rows5 w' ss xss :=
  ⟨h.1, fun j h1 h2 => (h.2 j h1 h2).below hb hB⟩
/-- Concat's second loop: k rows are in. -/
def CatRel (w : World) (xss : List (List Att)) (k : Nat) (v : Value) (wr : World) : Prop :=
  wr.ownsRow w.heap.size 28 5 v (xss.take k).flatten.length (fl attC (xss.take k).flatten) ∧ Below w.heap.size w wr

set_option maxRecDepth 100000 in
set_option maxHeartbeats 1000000 in
theorem concat_any (v : Value) (ss : List (Option Addr × Nat × Nat)) (xss : List (List Att)) (w : World) (hv : Row slC w v ss) (h0 : 0 < ss.length) (hr : Rows5 w ss xss) (hsum : xss.flatten.length ≤ 100000) :
    Calls Try.prog 35 #[v] w fun e w' => ∃ u, e = .returned u ∧ w'.ownsRow w.heap.size 28 5 u xss.flatten.length (fl attC xss.flatten) ∧ Below w.heap.size w w' := by
  obtain ⟨i0, hi, hz0, hz1, hz2⟩ := info_att5
  have hlen := hv.len
  obtain ⟨a1, cap1, rfl⟩ := hv.shape
  obtain ⟨b1, o1, rfl, -, -, -, hbl, hat, -⟩ := hv.opened h0
  have hat0 : ∀ j (hj : j < ss.length), w.cell? ⟨b1, o1 + j, none⟩ = some (slV ss[j]) := fun j hj => by
    have := hat j hj 0 _ rfl
    simpa [slC] using this
  have HAT := Lib.hid hat0
  have HR := Lib.hid hr
  have HL := Lib.hid hr.1
  clear hat hat0 hv hr
  obtain ⟨N, hN⟩ : ∃ N, xss.flatten.length = N := ⟨_, rfl⟩
  have HG := Lib.hid (grow_any5 N w (by omega))
  have HNN := Lib.hid hN
  clear hN
  go_enter Try.func35, Try.ntmps35
  go_wp2
  go_loop [3, 11] (fun s3 s11 => ∃ k : Nat, k ≤ ss.length ∧ s11 = .int .i64 k ∧ s3 = .int .i64 ((xss.take k).flatten.length)) (fun _ s11 => ss.length - (intOf s11).toNat)
  case atStart => exact ⟨0, Nat.zero_le _, rfl, rfl⟩
  case round =>
    obtain ⟨k, hk, rfl, rfl⟩ := hrel
    by_cases hlt : k < ss.length
    · have c0 := HAT.out k hlt
      have hkx : k < xss.length := by rw [← HL.out]; exact hlt
      have hA := HR.out.2 k hlt hkx
      have hs := congrArg List.length (flat_snoc xss k hkx)
      rw [List.length_append] at hs
      have hle := flat_le xss (k + 1)
      have hn : ss[k].2.1 = xss[k].length := by
        obtain ⟨a, c, e⟩ := hA.shape
        injection e
      generalize ss[k] = x at *
      obtain ⟨x1, x2, x3⟩ := x
      simp only at hn c0
      subst hn
      have HA := Lib.hid hA
      generalize xss[k].length = n at *
      generalize (xss.take k).flatten.length = m at *
      have hmn : m + n ≤ 100000 := by omega
      have HS := Lib.hid hs
      have d1 : decide ((m : Int) + (n : Int) < 0) = false := by rw [decide_eq_false_iff_not]; omega
      clear hA hs hle
      go_wp2
      go_round
      case rel => exact ⟨k + 1, by omega, by go_num, by rw [HS.out]; go_num⟩
      case measure => simp [intOf]; omega
    · have hkk : k = xss.length := by have := HL.out; omega
      have hf : (xss.take k).flatten.length = N := by rw [hkk, flat_all]; exact HNN.out
      generalize (xss.take k).flatten.length = m at *
      subst hf
      have HSUM := Lib.hid hsum
      clear hsum
      go_wp2_with (go_at_call 45; refine HG.out.mono ?_; rintro e w1 ⟨v6, rfl, hown, hb1⟩)
      have HAT1 := Lib.hid (fun j (hj : j < ss.length) => (hb1.cell (p := ⟨b1, o1 + j, none⟩) hbl).trans (HAT.out j hj))
      have hini : CatRel w xss 0 v6 w1 := ⟨by simpa [fl_nil] using hown, hb1⟩
      have HLS := Lib.hid (show xss.length = ss.length from HL.out.symm)
      clear hown hb1 HG
      go_loopw [6, 27] (fun s6 s27 wr => ∃ k : Nat, k ≤ ss.length ∧ s27 = .int .i64 k ∧ CatRel w xss k s6 wr) (fun _ s27 _ => ss.length - (intOf s27).toNat)
      case atStart => exact ⟨0, Nat.zero_le _, rfl, hini⟩
      case round =>
        clear hini
        obtain ⟨k, hk, rfl, hown, hb⟩ := hrel
        by_cases hlt2 : k < ss.length
        · have c0 := (hb.cell (p := ⟨b1, o1 + k, none⟩) hbl).trans (HAT.out k hlt2)
          have hkx : k < xss.length := by rw [HLS.out]; exact hlt2
          have hA := (HR.out.2 k hlt2 hkx).below hb (Nat.le_refl _)
          have hs := flat_snoc xss k hkx
          have hle := flat_le xss (k + 1)
          have hsl := congrArg List.length hs
          rw [List.length_append] at hsl
          generalize ss[k] = x at *
          obtain ⟨x1, x2, x3⟩ := x
          change wr.cell? ⟨b1, o1 + k, none⟩ = some (.slice x1 x2 x3) at c0
          change Arow wr (.slice x1 x2 x3) _ at hA
          have HS := Lib.hid hs
          have HSL := Lib.hid hsl
          have HO := Lib.hid hown
          have HA := Lib.hid hA
          have HB := Lib.hid hb
          have hbs := hb.size
          have hmx : (xss.take k).flatten.length + xss[k].length ≤ 100000 := by have := HSUM.out; omega
          have HMX := Lib.hid hmx
          have hd : xss[k].length ≤ maxLen ∧ True := ⟨by unfold maxLen; omega, trivial⟩
          clear hs hsl hle hown hA hb hmx
          go_wp2_with (at_builtin; go_loud (refine wpList_append_row (C := attC) rfl (.tmp 31) (.tmp 32) 23 rfl w.heap.size 28 i0 (av noAtt) 48 Try.underlying23 hi hz0 hz1 hz2 rfl _ _ _ rfl HO.out _ xss[k] rfl HA.out (by have := HMX.out; unfold maxLen; omega) (by have := HMX.out; omega) hbs ?_); intro v3 w3 hown3 hgrow3)
          have hcat : CatRel w xss (k + 1) v3 w3 := by
            refine ⟨?_, HB.out.grown hgrow3 hbs (fun j hj => own_base HO.out hj)⟩
            rw [HS.out, fl_app, List.length_append]
            exact hown3
          have HC := Lib.hid hcat
          clear hown3 hgrow3 hcat
          go_roundw
          case rel => exact ⟨k + 1, by omega, by go_num, HC.out⟩
          case measure => simp [intOf]; omega
        · obtain rfl : k = xss.length := by rw [HLS.out]; omega
          have HC := Lib.hid hown
          have HB := Lib.hid hb
          clear hown hb
          go_wp2
          go_ret
          refine ⟨_, rfl, ?_, HB.out⟩
          have := HC.out
          rw [flat_all] at this
          exact this
end Go.Proofs.Ythbehjilabedoaa
