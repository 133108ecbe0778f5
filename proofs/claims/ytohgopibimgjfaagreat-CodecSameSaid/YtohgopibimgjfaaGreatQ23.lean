
import Derived.Test.YtohgopibimgjfaaGreatQ22
/- Q23: CodecSame's walk, with no bound but the law's own -/
namespace Go.Proofs.YtohgopibimgjfaaGreat
open Go.RowKit
set_option linter.unusedVariables false
set_option maxRecDepth 100000

theorem ba_ne {a b : ByteArray} (h : ¬ a = b) : (a.toList == b.toList) = false := by
  rw [beq_eq_false_iff_ne]
  intro e
  rw [ByteArray.toList_eq, ByteArray.toList_eq] at e
  apply h
  cases a
  cases b
  simp only at e
  have := Array.ext' e
  rw [this]
set_option maxHeartbeats 8000000 in
theorem same_walkS (hE : PEnc) (hD : PDec) (ka : Option Addr) (kn kc : Nat) (ks : List Key) (xa : Option Addr) (xn xc : Nat) (xs : List Oz) (ya : Option Addr) (yn yc : Nat) (ys : List Oz) (w : World) (hk : Krow w (.slice ka kn kc) ks) (hW : ∀ k ∈ ks, KeyW k) (hx : Orow w (.slice xa xn xc) xs) (hy : Orow w (.slice ya yn yc) ys) (hdx : ∀ z ∈ xs, OpW z) (hdy : ∀ z ∈ ys, OpW z) :
    Calls Tryz.prog 6 #[.slice ka kn kc, .slice xa xn xc, .slice ya yn yc] w fun e w' => e = .returned (.bool true) ∧ Below w.heap.size w w' := by
  have HN := Lib.hid (fun W => known17_any hE hD W)
  have HPE := Lib.hid hE
  have HX := Lib.hid (fun W (hb : Below w.heap.size w W) => hx.below hb)
  have HY := Lib.hid (fun W (hb : Below w.heap.size w W) => hy.below hb)
  have HSX := Lib.hid (fun W (hb : Below w.heap.size w W) => size_may _ xs W (hx.below hb))
  have HSY := Lib.hid (fun W (hb : Below w.heap.size w W) => size_may _ ys W (hy.below hb))
  by_cases hm : mayKs ks
  · have HNEW := Lib.hid (new_yes hk hW hm)
    have HGK := Lib.hid hm.2
    have HWX := Lib.hid hdx
    have HWY := Lib.hid hdy
    clear hm hk hW hx hy hdx hdy hE hD
    go_enter Tryz.func6, Tryz.ntmps6
    go_wp2_with (go_at_call 8; (with_reducible refine HNEW.out.mono ?_))
    rintro e w1 ⟨s, rfl, hs, hb⟩
    have HB1 := Lib.hid hb
    have HS1 := Lib.hid hs
    clear hb hs HNEW
    have HSX1 := Lib.hid (HSX.out _ HB1.out)
    go_wp2_with (go_at_call 9; (with_reducible refine HSX1.out.mono ?_))
    rintro e w2 ⟨⟨n, rfl, hsz⟩, hb⟩
    have HSZ := Lib.hid (hsz ks)
    clear hsz
    have HB2 := Lib.hid (below_add HB1.out hb HB1.out.size)
    have HS2 := Lib.hid (HS1.out.below hb (Nat.le_refl _))
    clear hb HSX1 HSX HS1 HB1
    by_cases hn : 200 < n
    · have hd : decide (200 < n) = true := decide_eq_true hn
      clear hn
      go_wp2_with (go_at_call 10; (with_reducible refine (HN.out _).mono ?_); rintro e w3 ⟨rfl, hb⟩; have HB3 := Lib.hid (below_add HB2.out hb HB2.out.size); clear hb)
      go_ret
      exact ⟨rfl, HB3.out⟩
    have hd : decide (200 < n) = false := decide_eq_false hn
    have HDX := Lib.hid (show mayX ks (xs.map Oz.o) = 0 → Din ks xs from fun h => ⟨HGK.out, HWX.out, by have := HSZ.out h; omega⟩)
    clear hn HSZ
    have HSY2 := Lib.hid (HSY.out _ HB2.out)
    go_wp2_with (go_at_call 9; (with_reducible refine HSY2.out.mono ?_))
    rintro e w3 ⟨⟨n2, rfl, hsz⟩, hb⟩
    have HSZ2 := Lib.hid (hsz ks)
    clear hsz
    have HB3 := Lib.hid (below_add HB2.out hb HB2.out.size)
    have HS3 := Lib.hid (HS2.out.below hb (Nat.le_refl _))
    clear hb HSY2 HSY HS2 HB2
    by_cases hn2 : 200 < n2
    · have hd2 : decide (200 < n2) = true := decide_eq_true hn2
      clear hn2
      go_wp2_with (go_at_call 10; (with_reducible refine (HN.out _).mono ?_); rintro e w4 ⟨rfl, hb⟩; have HB4 := Lib.hid (below_add HB3.out hb HB3.out.size); clear hb)
      go_ret
      exact ⟨rfl, HB4.out⟩
    have hd2 : decide (200 < n2) = false := decide_eq_false hn2
    have HDY := Lib.hid (show mayX ks (ys.map Oz.o) = 0 → Din ks ys from fun h => ⟨HGK.out, HWY.out, by have := HSZ2.out h; omega⟩)
    clear hn2 HSZ2
    obtain ⟨f, hf⟩ : ∃ f, mayX ks (xs.map Oz.o) = f := ⟨_, rfl⟩
    obtain ⟨g, hg⟩ : ∃ f, mayX ks (ys.map Oz.o) = f := ⟨_, rfl⟩
    have HF := Lib.hid hf
    have HG := Lib.hid hg
    have HEX := Lib.hid (penc_w HPE.out HS3.out (HX.out _ HB3.out) HWX.out HDX.out hf rfl)
    clear hf hg
    go_wp2_with (go_at_call 12; (with_reducible refine HEX.out.mono ?_))
    rintro e w4 ⟨a4, n4, c4, rfl, hi4, hb⟩
    have HB4 := Lib.hid (below_add HB3.out hb HB3.out.size)
    have HS4 := Lib.hid (HS3.out.below hb (Nat.le_refl _))
    have HI4 := Lib.hid hi4
    have HEY := Lib.hid (penc_w HPE.out HS4.out (HY.out _ HB4.out) HWY.out HDY.out HG.out rfl)
    clear hb HB3 HS3 HEX hi4
    go_wp2_with (go_at_call 12; (with_reducible refine HEY.out.mono ?_))
    rintro e w5 ⟨a5, n5, c5, rfl, hi5, hb⟩
    have HB5 := Lib.hid (below_add HB4.out hb HB4.out.size)
    have HS5 := Lib.hid (HS4.out.below hb (Nat.le_refl _))
    have HI5 := Lib.hid hi5
    have HJ4 := Lib.hid (fun h => (HI4.out h).below hb)
    clear hb HB4 HS4 HEY hi5 HI4
    by_cases hf0 : f = 0
    · by_cases hg0 : g = 0
      · subst hf0 hg0
        have HDX := Lib.hid (HDX.out HF.out)
        have HDY := Lib.hid (HDY.out HG.out)
        have HA5 := Lib.hid (HJ4.out rfl)
        have HC5 := Lib.hid (HI5.out rfl)
        clear HJ4 HI5
        have HOX := Lib.hid (of_din (HX.out _ HB5.out) HDX.out)
        go_wp2_with (go_at_call 18; (with_reducible refine HOX.out.mono ?_))
        rintro e w6 ⟨a6, n6, c6, us, rfl, hu, ho, hb⟩
        have HB6 := Lib.hid (below_add HB5.out hb HB5.out.size)
        have HS6 := Lib.hid (HS5.out.below hb (Nat.le_refl _))
        have HA6 := Lib.hid (HA5.out.below hb)
        have HC6 := Lib.hid (HC5.out.below hb)
        have HU6 := Lib.hid ho
        have HUM := Lib.hid hu
        have HOY := Lib.hid (of_din (HY.out _ HB6.out) HDY.out)
        clear hu ho hb HB5 HS5 HA5 HC5 HOX
        go_wp2_with (go_at_call 18; (with_reducible refine HOY.out.mono ?_))
        rintro e w7 ⟨a7, n7, c7, vs, rfl, hv, ho, hb⟩
        have HB7 := Lib.hid (below_add HB6.out hb HB6.out.size)
        have HS7 := Lib.hid (HS6.out.below hb (Nat.le_refl _))
        have HA7 := Lib.hid (HA6.out.below hb)
        have HC7 := Lib.hid (HC6.out.below hb)
        have HU7 := Lib.hid (HU6.out.below hb)
        have HV7 := Lib.hid ho
        have HVM := Lib.hid hv
        have HEM := Lib.hid (penc_x HPE.out HS7.out HU7.out.orow (told_din HDX.out HF.out HUM.out) (told_may HDX.out HF.out HUM.out).1 (told_may HDX.out HF.out HUM.out).2)
        clear hv ho hb HB6 HS6 HA6 HC6 HU6 HOY
        go_wp2_with (go_at_call 12; (with_reducible refine HEM.out.mono ?_))
        rintro e w8 ⟨a8, n8, c8, rfl, hi8, hb⟩
        have HB8 := Lib.hid (below_add HB7.out hb HB7.out.size)
        have HA8 := Lib.hid (HA7.out.below hb)
        have HC8 := Lib.hid (HC7.out.below hb)
        have HM8 := Lib.hid (hi8 (by first | rfl | trivial))
        have HU8 := Lib.hid (HU7.out.below hb).orow
        have HV8 := Lib.hid (HV7.out.below hb).orow
        have hiff := enc_same HDX.out HDY.out HF.out HG.out
        have hoA := form_okb HDX.out HF.out
        have hoC := form_okb HDY.out HG.out
        have HKN := Lib.hid (fun W (hC : Below w8.heap.size w8 W) => (show Calls _ _ _ _ _ from (HN.out W).mono fun e w' h => (⟨h.1, below_add hC h.2 hC.size⟩ : e = .returned (.bool true) ∧ Below w8.heap.size w8 w')))
        clear hb hi8 HB7 HS7 HA7 HC7 HU7 HV7 HEM
        by_cases hq : formO (xs.map Oz.o) = formO (ys.map Oz.o)
        · have HSM := Lib.hid (fun W (hC : Below w8.heap.size w8 W) => (show Calls _ _ _ _ _ from (rosame_any _ _ us vs W (HU8.out.below hC) (HV8.out.below hC)).mono fun e w' h => (⟨by rw [h.1, HUM.out, HVM.out, decide_eq_true hq], below_add hC h.2 hC.size⟩ : e = .returned (.bool true) ∧ Below w8.heap.size w8 w')))
          have HCV := Lib.hid (fun W (hC : Below w8.heap.size w8 W) => (⟨conv_ints _ _ W (HA8.out.below hC), (by have := conv_ints _ _ W (HC8.out.below hC); rw [← hq] at this; exact this), conv_ints _ _ W (HM8.out.below hC)⟩ : _ ∧ _ ∧ _))
          clear hq hiff hoA hoC HU8 HV8 HUM HVM HA8 HC8 HM8
          go_wp2_with fail
          refine region_classw (C := fun W => Below w8.heap.size w8 W) (by kernel_rfl) (by kernel_rfl) ((Below.refl _ _).drew) ?_
          repeat (first
            | (refine w_callg (by rfl) (by rfl) (fun w9 hS => ?_) HSM.out ?_
               · go_simp
               simp only [Act.put, List.setIfInBounds_toArray, List.set_cons_zero, List.set_cons_succ])
            | (refine w_callg (by rfl) (by rfl) (fun w9 hS => ?_) HKN.out ?_
               · go_simp
               simp only [Act.put, List.setIfInBounds_toArray, List.set_cons_zero, List.set_cons_succ])
            | (first
                | refine w_val (v := ?_) (by rfl) (fun w9 hS => ?_) ?_
                | refine w_valg (v := ?_) (by rfl) (by rfl) (fun w9 hS => ?_) ?_
               rotate_left
               · obtain ⟨hcA, hcC, hcM⟩ := HCV.out w9 hS
                 go_simp
                 try with_reducible rfl
               simp only [Act.put, List.setIfInBounds_toArray, List.set_cons_zero, List.set_cons_succ]))
          refine w_end ?_
          intro w9 hb9
          have HB9 := Lib.hid (below_add HB8.out hb9 HB8.out.size)
          clear hb9
          go_wp2
          go_ret
          exact ⟨rfl, HB9.out⟩
        · have HSM := Lib.hid (fun W (hC : Below w8.heap.size w8 W) => (show Calls _ _ _ _ _ from (rosame_any _ _ us vs W (HU8.out.below hC) (HV8.out.below hC)).mono fun e w' h => (⟨by rw [h.1, HUM.out, HVM.out, decide_eq_false hq], below_add hC h.2 hC.size⟩ : e = .returned (.bool false) ∧ Below w8.heap.size w8 w')))
          have HCV := Lib.hid (fun W (hC : Below w8.heap.size w8 W) => (⟨conv_ints _ _ W (HA8.out.below hC), conv_ints _ _ W (HC8.out.below hC), conv_ints _ _ W (HM8.out.below hC)⟩ : _ ∧ _ ∧ _))
          have hne : ¬ strOfNums (encX (formO (xs.map Oz.o))) = strOfNums (encX (formO (ys.map Oz.o))) := fun h => hq (hiff.1 (str_eq hoA hoC h))
          have hne3 := ba_ne hne
          have hne2 : decide (strOfNums (encX (formO (xs.map Oz.o))) = strOfNums (encX (formO (ys.map Oz.o)))) = false := decide_eq_false hne
          clear hq hiff hoA hoC HU8 HV8 HUM HVM HA8 HC8 HM8
          go_wp2_with fail
          refine region_classw (C := fun W => Below w8.heap.size w8 W) (by kernel_rfl) (by kernel_rfl) ((Below.refl _ _).drew) ?_
          repeat (first
            | (refine w_callg (by rfl) (by rfl) (fun w9 hS => ?_) HSM.out ?_
               · go_simp
               simp only [Act.put, List.setIfInBounds_toArray, List.set_cons_zero, List.set_cons_succ])
            | (refine w_callg (by rfl) (by rfl) (fun w9 hS => ?_) HKN.out ?_
               · go_simp
               simp only [Act.put, List.setIfInBounds_toArray, List.set_cons_zero, List.set_cons_succ])
            | (first
                | refine w_val (v := ?_) (by rfl) (fun w9 hS => ?_) ?_
                | refine w_valg (v := ?_) (by rfl) (by rfl) (fun w9 hS => ?_) ?_
               rotate_left
               · obtain ⟨hcA, hcC, hcM⟩ := HCV.out w9 hS
                 go_simp
                 try with_reducible rfl
               simp only [Act.put, List.setIfInBounds_toArray, List.set_cons_zero, List.set_cons_succ]))
          refine w_end ?_
          intro w9 hb9
          have HB9 := Lib.hid (below_add HB8.out hb9 HB8.out.size)
          clear hb9
          go_wp2
          go_ret
          exact ⟨rfl, HB9.out⟩
      · have h1 : (f != 0) = false := by simpa using hf0
        have h2 : (g != 0) = true := by simpa using hg0
        clear hf0 hg0
        go_wp2_with (go_at_call 10; (with_reducible refine (HN.out _).mono ?_); rintro e w6 ⟨rfl, hb⟩; have HB6 := Lib.hid (below_add HB5.out hb HB5.out.size); clear hb)
        go_ret
        exact ⟨rfl, HB6.out⟩
    · have h1 : (f != 0) = true := by simpa using hf0
      clear hf0
      go_wp2_with (go_at_call 10; (with_reducible refine (HN.out _).mono ?_); rintro e w6 ⟨rfl, hb⟩; have HB6 := Lib.hid (below_add HB5.out hb HB5.out.size); clear hb)
      go_ret
      exact ⟨rfl, HB6.out⟩
  · have HNEW := Lib.hid (new_no hk hW hm)
    clear hm hk hW hx hy hdx hdy hE hD HPE
    go_enter Tryz.func6, Tryz.ntmps6
    go_wp2_with (first
      | (go_at_call 8; (with_reducible refine HNEW.out.mono ?_); rintro e w1 ⟨rfl, hb⟩; have HB1 := Lib.hid hb; clear hb)
      | (go_at_call 10; (with_reducible refine (HN.out _).mono ?_); rintro e w2 ⟨rfl, hb⟩; have HB2 := Lib.hid (below_add HB1.out hb HB1.out.size); clear hb))
    go_ret
    exact ⟨rfl, HB2.out⟩
end Go.Proofs.YtohgopibimgjfaaGreat
