
import Derived.Test.YtohgopibimgjfaaGreatZ9
/- Q20: CodecWrites' walk -/
namespace Go.Proofs.YtohgopibimgjfaaGreat
open Go.RowKit
set_option linter.unusedVariables false
set_option maxRecDepth 100000

/-- Both Encodes, told alike. -/
def EncQ (f : Int) (L : List Int) (w : World) (e : Ending) (w' : World) : Prop := (∃ a c, e = .returned (.tuple #[.slice a L.length c, .int .i64 f]) ∧ Ints .u8 w' (.slice a L.length c) L) ∧ Below w.heap.size w w'
theorem encq {w w' : World} {ks : List Key} {xs : List Opn} {e : Ending} {f : Int} {L : List Int} (h : EncP w ks xs e w') (hf : mayX ks xs = f) (hL : L = if f = 0 then encX (formO xs) else []) : EncQ f L w e w' := by
  obtain ⟨hb, hc⟩ := h
  rw [hf] at hc
  rcases hc with ⟨h0, v, he, ho⟩ | ⟨hn, he⟩
  · rw [if_pos h0] at hL
    subst hL
    obtain ⟨a, c, rfl, -, -⟩ := own_shape ho
    exact ⟨⟨a, c, by rw [he, h0], (Ints.of_owns ho).1⟩, hb⟩
  · rw [if_neg hn] at hL
    subst hL
    exact ⟨⟨none, 0, he, ints_nil _ _⟩, hb⟩
theorem rdec_yes {kv : Value} {ks : List Key} {va : Option Addr} {c : Nat} {bs : List Int} {w : World} {X : List Opn} (hs : Krow w kv ks) (hv : Ints .u8 w (.slice va bs.length c) bs) (ho : Okb bs) (hl : bs.length ≤ 50000000) (hX : decX 1073741824 ks bs = (X, 0)) :
    Calls Tryz.prog 16 #[kv, .slice va bs.length c] w fun e w' => ∃ a n d ys, e = .returned (.tuple #[.slice a n d, .int .i64 0]) ∧ ys.map Oz.o = X ∧ Oown (fun g => w.heap.size ≤ g) w' (.slice a n d) ys ∧ Below w.heap.size w w' := by
  refine (rdec_any kv ks va c bs w hs hv ho hl).mono fun e w' ⟨v, ys, he, hy, hw, hb⟩ => ?_
  rw [hX] at he hy
  obtain ⟨a, d, rfl, -, -⟩ := hw.shape
  exact ⟨a, _, d, ys, he, hy, hw, hb⟩
theorem tot_eq {xs us : List Oz} (h : us.map Oz.o = xs.map Oz.o) : totO us ≤ totO xs := by
  have h1 := tot_wws us
  have h2 := wws_tot xs
  rw [h] at h1
  omega
theorem opw_eq {x u : Oz} (h : u.o = x.o) (hx : OpW x) : OpW u := by
  have e1 : u.k = x.k := congrArg Opn.k h
  have e2 : u.n = x.n := congrArg Opn.n h
  have e3 : u.rs = x.rs := congrArg Opn.rs h
  have e4 : u.st = x.st := congrArg Opn.st h
  have e5 : u.pt = x.pt := congrArg Opn.pt h
  exact ⟨by rw [e1]; exact hx.k, by rw [e2]; exact hx.n, by rw [e3]; exact hx.r, by rw [e4]; exact hx.s, by rw [e5]; exact hx.p⟩
theorem din_eq {ks : List Key} {xs us : List Oz} (hd : Din ks xs) (h : us.map Oz.o = xs.map Oz.o) : Din ks us := by
  refine ⟨hd.g, fun u hu => ?_, Nat.le_trans (tot_eq h) hd.t⟩
  have hm : u.o ∈ us.map Oz.o := List.mem_map_of_mem hu
  rw [h] at hm
  obtain ⟨x, hx, e⟩ := List.mem_map.1 hm
  exact opw_eq e.symm (hd.w x hx)
set_option maxHeartbeats 8000000 in
theorem writes_walk (hE : PEnc) (hD : PDec) (ka : Option Addr) (kn kc : Nat) (ks : List Key) (xa : Option Addr) (xn xc : Nat) (xs : List Oz) (w : World) (hk : Krow w (.slice ka kn kc) ks) (hW : ∀ k ∈ ks, KeyW k) (hx : Orow w (.slice xa xn xc) xs) (hdx : ∀ z ∈ xs, OpW z) (htx : totO xs ≤ 1048576) :
    Calls Tryz.prog 3 #[.slice ka kn kc, .slice xa xn xc] w fun e w' => e = .returned (.bool true) ∧ Below w.heap.size w w' := by
  have HN := Lib.hid (fun W => known17_any hE hD W)
  have HPE := Lib.hid hE
  have HPD := Lib.hid hD
  have HX := Lib.hid (fun W (hb : Below w.heap.size w W) => hx.below hb)
  have HKR := Lib.hid (fun W (hb : Below w.heap.size w W) => hk.below hb (Nat.le_refl _))
  have HSX := Lib.hid (fun W (hb : Below w.heap.size w W) => size_any _ xs W (hx.below hb))
  by_cases hm : mayKs ks
  · have HNEW := Lib.hid (new_yes hk hW hm)
    have HMK := Lib.hid hm
    have HDX := Lib.hid (show Din ks xs from ⟨hm.2, hdx, htx⟩)
    have HTX := Lib.hid htx
    clear hm hk hW hx hdx htx hE hD
    obtain ⟨f, hf⟩ : ∃ f, mayX ks (xs.map Oz.o) = f := ⟨_, rfl⟩
    have HF := Lib.hid hf
    obtain ⟨L, hL⟩ : ∃ L : List Int, L = if f = 0 then encX (formO (xs.map Oz.o)) else [] := ⟨_, rfl⟩
    have HLL := Lib.hid hL
    clear hf hL
    go_enter Tryz.func3, Tryz.ntmps3
    go_wp2_with (go_at_call 8; (with_reducible refine HNEW.out.mono ?_))
    rintro e w1 ⟨s, rfl, hs, hb⟩
    have HB1 := Lib.hid hb
    have HS1 := Lib.hid hs
    clear hb hs HNEW
    have HSX1 := Lib.hid (HSX.out _ HB1.out)
    go_wp2_with (go_at_call 9; (with_reducible refine HSX1.out.mono ?_))
    rintro e w2 ⟨⟨n, rfl⟩, hb⟩
    have HB2 := Lib.hid (below_add HB1.out hb HB1.out.size)
    have HS2 := Lib.hid (HS1.out.below hb (Nat.le_refl _))
    clear hb HSX1 HSX HS1 HB1
    by_cases hn : 200 < n
    · have hd : decide (200 < n) = true := decide_eq_true hn
      clear hn
      go_wp2_with (go_at_call 10; (with_reducible refine (HN.out _).mono ?_); rintro e w3 ⟨rfl, hb⟩; have HB3 := Lib.hid (below_add HB2.out hb HB2.out.size); clear hb)
      go_ret
      exact ⟨rfl, HB3.out⟩
    have hd : decide (200 < n) = false := decide_eq_false hn
    clear hn
    have HCP := Lib.hid (copy_h (HX.out _ HB2.out) HDX.out.l.i)
    go_wp2_with (go_at_call 11; (with_reducible refine HCP.out.mono ?_))
    rintro e w3 ⟨a3, n3, c3, us, rfl, -, hu, ho, hb⟩
    have HB3 := Lib.hid (below_add HB2.out hb HB2.out.size)
    have HS3 := Lib.hid (HS2.out.below hb (Nat.le_refl _))
    have HU3 := Lib.hid ho.orow
    have HUM := Lib.hid hu
    have HDU := Lib.hid (din_eq HDX.out hu)
    clear hb hu ho HB2 HS2 HCP
    have HEX := Lib.hid (show Calls Tryz.prog 12 #[.pointer (some s), .slice a3 n3 c3] w3 (EncQ f L w3) from (HPE.out _ _ ks us w3 HS3.out HU3.out HDU.out).mono fun e w' h => encq h (by rw [HUM.out]; exact HF.out) (by rw [HUM.out]; exact HLL.out))
    go_wp2_with (go_at_call 12; (refine HEX.out.mono ?_))
    rintro e w4 ⟨⟨a4, c4, rfl, hi4⟩, hb⟩
    have HB4 := Lib.hid (below_add HB3.out hb HB3.out.size)
    have HS4 := Lib.hid (HS3.out.below hb (Nat.le_refl _))
    have HU4 := Lib.hid (HU3.out.below hb)
    have HI4 := Lib.hid hi4
    have HER := Lib.hid (show Calls Tryz.prog 13 #[.slice ka kn kc, .slice xa xn xc] w4 (EncQ f L w4) from (renc_any _ _ ks xs w4 (HKR.out _ HB4.out) (HX.out _ HB4.out) HDX.out).mono fun e w' h => encq h HF.out HLL.out)
    clear hb hi4 HB3 HS3 HU3 HEX
    go_wp2_with (go_at_call 13; (refine HER.out.mono ?_))
    rintro e w5 ⟨⟨a5, c5, rfl, hi5⟩, hb⟩
    have HB5 := Lib.hid (below_add HB4.out hb HB4.out.size)
    have HS5 := Lib.hid (HS4.out.below hb (Nat.le_refl _))
    have HU5 := Lib.hid (HU4.out.below hb)
    have HI5 := Lib.hid (HI4.out.below hb)
    have HJ5 := Lib.hid hi5
    have hc4 := conv_ints _ _ w5 HI5.out
    have hc5 := conv_ints _ _ w5 HJ5.out
    have HSM := Lib.hid (show Calls Tryz.prog 14 #[.slice a3 n3 c3, .slice xa xn xc] w5 (fun e w' => e = .returned (.bool true) ∧ Below w5.heap.size w5 w') from (rosame_any _ _ us xs w5 HU5.out (HX.out _ HB5.out)).mono fun e w' h => ⟨by rw [h.1, decide_eq_true HUM.out], h.2⟩)
    have hff : (f != f) = false := by simp
    clear hb hi5 HB4 HS4 HU4 HI4 HER
    go_upto_region 9 with (go_at_call 14; go_loud (refine HSM.out.mono ?_; rintro e w6 ⟨rfl, hb⟩; have HB6 := Lib.hid (below_add HB5.out hb HB5.out.size); have HS6 := Lib.hid (HS5.out.below hb (Nat.le_refl _)); have HI6 := Lib.hid (HI5.out.below hb); have HJ6 := Lib.hid (HJ5.out.below hb); clear hb))
    clear hc4 hc5 HB5 HS5 HI5 HJ5 HSM HU5 hff
    by_cases hf0 : f = 0
    · subst hf0
      have hL2 : L = encX (formO (xs.map Oz.o)) := by rw [HLL.out, if_pos rfl]
      have hXX := decX_form HDX.out HF.out
      rw [← hL2] at hXX
      have hoL := form_okb HDX.out HF.out
      rw [← hL2] at hoL
      have hlL : L.length ≤ 50000000 := by have h1 := form_len HDX.out HF.out; rw [← hL2] at h1; have := HTX.out; omega
      have HD1 := Lib.hid (pdec_yes HPD.out HS6.out HMK.out HI6.out hoL hlL hXX)
      have HXX := Lib.hid hXX
      have HOL := Lib.hid hoL
      have HLL2 := Lib.hid hlL
      clear hL2 hXX hoL hlL
      go_wp2_with fail
      refine HD1.out.mono ?_
      rintro e w7 ⟨a7, n7, c7, ys, rfl, -, hy, ho, hb⟩
      have HB7 := Lib.hid (below_add HB6.out hb HB6.out.size)
      have HY7 := Lib.hid ho.orow
      have HYM := Lib.hid hy
      have HD2 := Lib.hid (rdec_yes (HKR.out _ HB7.out) (HJ6.out.below hb) HOL.out HLL2.out HXX.out)
      clear hb hy ho HD1
      go_wp2_with fail
      refine HD2.out.mono ?_
      rintro e w8 ⟨a8, n8, c8, zs, rfl, hz, ho, hb⟩
      have HB8 := Lib.hid (below_add HB7.out hb HB7.out.size)
      have HSM := Lib.hid (show Calls Tryz.prog 14 #[.slice a7 n7 c7, .slice a8 n8 c8] w8 (fun e w' => e = .returned (.bool true) ∧ Below w8.heap.size w8 w') from (rosame_any _ _ ys zs w8 (HY7.out.below hb) ho.orow).mono fun e w' h => ⟨by rw [h.1, decide_eq_true (by rw [HYM.out, hz])], h.2⟩)
      clear hb hz ho HD2
      go_wp2_with (first
        | (go_at_call 14; go_loud (refine HSM.out.mono ?_; rintro e w9 ⟨rfl, hb⟩; have HB9 := Lib.hid (below_add HB8.out hb HB8.out.size); clear hb))
        | (go_at_call 10; (with_reducible refine (HN.out _).mono ?_); rintro e w10 ⟨rfl, hb⟩; have HB10 := Lib.hid (below_add HB9.out hb HB9.out.size); clear hb))
      go_ret
      exact ⟨rfl, HB10.out⟩
    · have h1 : (f != 0) = true := by simpa using hf0
      have hL2 : L = [] := by rw [HLL.out, if_neg hf0]
      clear hf0 HLL
      subst hL2
      go_wp2_with (go_at_call 10; (with_reducible refine (HN.out _).mono ?_); rintro e w7 ⟨rfl, hb⟩; have HB7 := Lib.hid (below_add HB6.out hb HB6.out.size); clear hb)
      go_ret
      exact ⟨rfl, HB7.out⟩
  · have HNEW := Lib.hid (new_no hk hW hm)
    clear hm hk hW hx hdx htx hE hD HPE
    go_enter Tryz.func3, Tryz.ntmps3
    go_wp2_with (first
      | (go_at_call 8; (with_reducible refine HNEW.out.mono ?_); rintro e w1 ⟨rfl, hb⟩; have HB1 := Lib.hid hb; clear hb)
      | (go_at_call 10; (with_reducible refine (HN.out _).mono ?_); rintro e w2 ⟨rfl, hb⟩; have HB2 := Lib.hid (below_add HB1.out hb HB1.out.size); clear hb))
    go_ret
    exact ⟨rfl, HB2.out⟩
end Go.Proofs.YtohgopibimgjfaaGreat
