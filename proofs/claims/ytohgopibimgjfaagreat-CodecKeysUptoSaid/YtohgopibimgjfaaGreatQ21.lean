
import Derived.Test.YtohgopibimgjfaaGreatZ9
/- Q21: CodecKeys' walk -/
namespace Go.Proofs.YtohgopibimgjfaaGreat
open Go.RowKit
set_option linter.unusedVariables false
set_option maxRecDepth 100000

def keyC : Cel Key := ⟨kc, 6, fun _ => rfl, fun o u hu => by
  simp only [List.mem_cons, List.not_mem_nil, or_false] at hu
  rcases hu with rfl | rfl | rfl | rfl | rfl | rfl <;> rfl, by decide⟩
theorem flat_key (ks : List Key) : flat ks = fl keyC ks := rfl
theorem Krow.row {w : World} {v : Value} {ks : List Key} (h : Krow w v ks) : Row keyC w v ks := h
section
open Go.ChangeShapes Go.WideShapes Go.ChangeAt
variable {H : Type} {enc : TypeId × Value → H} {w : World} {base : Nat} {spare : Nat → Bool} {held : Bool}
theorem bulk_pos (d : DataW H) : 1 ≤ Rows.uptoBulk d := by
  cases d with
  | lit l => cases l <;> simp [Rows.uptoBulk]
  | _ => simp [Rows.uptoBulk]
theorem bulk_len : ∀ l : List (DataW H), l.length ≤ Rows.uptoBulkAll l
  | [] => by simp
  | d :: r => by
    have := bulk_pos d
    have := bulk_len r
    rw [List.length_cons, Rows.uptoBulkAll]
    omega
theorem open_keysN {n : Nat} {v : Value} {x : DataW H × List MemPlace} (h : DataW.trod enc Tryz.prog w base spare held n 22 [v] = some x) : ∃ ks : List Key, Krow w v ks ∧ (∀ k ∈ ks, KeyW k) ∧ ks.length ≤ Rows.uptoBulk x.1 := by
  obtain ⟨xs, h1, h2, h3⟩ := open_rows (⟨fun q : Key × DataW H => kc q.1, 6, fun _ => rfl, fun q => keyC.one q.1, by decide⟩ : Cel (Key × DataW H)) (fun q => KeyW q.1) Prod.snd Tryz.underlying22 key_cells (fun {n cs y} hy => by
    obtain ⟨k, hk, hc⟩ := open_key hy
    exact ⟨(k, y.1), hk, hc, rfl⟩) h
  refine ⟨xs.map Prod.fst, ?_, fun z hz => ?_, ?_⟩
  · have e : ∀ l : List (Key × DataW H), flat (l.map Prod.fst) = l.flatMap fun q => kc q.1 := fun l => by
      induction l with
      | nil => rfl
      | cons q r ih => rw [List.map_cons, flat_cons, ih]; rfl
    rcases h1 with ⟨a, cap, hv, hx, hm, hc⟩ | ⟨b, off, cap, hv, q0, q1, q2, q3⟩
    · subst hx; exact .inl ⟨a, cap, hv, rfl, hm, hc⟩
    · refine .inr ⟨b, off, cap, by rw [List.length_map]; exact hv, by rw [List.length_map]; exact q0, by rw [List.length_map]; exact q1, q2, fun j u hu => q3 j u ?_⟩
      rw [e] at hu; exact hu
  · obtain ⟨q, hq, rfl⟩ := List.mem_map.1 hz
    exact h2 q hq
  · rw [List.length_map]
    rcases h3 with ⟨e, rfl⟩ | ⟨sp, e⟩
    · simp
    · rw [e, Rows.uptoBulk]
      have := bulk_len (xs.map Prod.snd)
      rw [List.length_map] at this
      omega
theorem small_K {ds : List (DataW H)} (hk : Rows.uptoSmall H ds = true) {d : DataW H} {ks : List Key} (hd : ks.length ≤ Rows.uptoBulk d) (hm : d ∈ ds) : ks.length ≤ 1048576 := by
  have h : Rows.uptoBulkAll ds ≤ 1048576 := of_decide_eq_true hk
  have h2 := in_bulk hm
  omega
end
/-- The row of both. -/
theorem two_rows2 {w1 w2 w3 : World} {ks more : List Key} {v2 v3 : Value} {n : Nat} (h2 : w2.ownsRow w1.heap.size 49 6 v2 n (fl keyC ks)) (hg2 : (w1.alloc (.cells #[] 49)).grownBy w2 (Value.slice (some ⟨w1.heap.size, 0, none⟩) 0 0).ownBlock) (h3 : w3.ownsRow w1.heap.size 49 6 v3 (n + more.length) (fl keyC ks ++ fl keyC more)) (hg3 : w2.grownBy w3 v2.ownBlock) : Krow w3 v3 (ks ++ more) ∧ Below w1.heap.size w1 w3 := by
  refine ⟨(Krow.of_owns (by rw [flat_key, fl_app]; exact h3)).1, ?_⟩
  have hb2 : Below w1.heap.size w1 w2 := ((Below.refl _ _).alloc (Nat.le_refl _) _).grown hg2 (by simp) (fun k hk => by simp [Value.ownBlock] at hk; omega)
  exact hb2.grown hg3 hb2.size (fun k hk => (h2.lt k hk).1)
theorem grown_app2 {w1 w2 : World} (hg2 : (w1.alloc (.cells #[] 49)).grownBy w2 (Value.slice (some ⟨w1.heap.size, 0, none⟩) 0 0).ownBlock) : Below w1.heap.size w1 w2 :=
  ((Below.refl _ _).alloc (Nat.le_refl _) _).grown hg2 (by simp) (fun k hk => by simp [Value.ownBlock] at hk; omega)
set_option maxHeartbeats 8000000 in
theorem keys_walk (hE : PEnc) (hD : PDec) (ka : Option Addr) (kn kc' : Nat) (ks : List Key) (ma : Option Addr) (mn mc : Nat) (more : List Key) (xa : Option Addr) (xn xc : Nat) (xs : List Oz) (w : World) (hk : Krow w (.slice ka kn kc') ks) (hW : ∀ k ∈ ks, KeyW k) (hkl : ks.length ≤ 1048576) (hmr : Krow w (.slice ma mn mc) more) (hWm : ∀ k ∈ more, KeyW k) (hml : more.length ≤ 1048576) (hx : Orow w (.slice xa xn xc) xs) (hdx : ∀ z ∈ xs, OpW z) (htx : totO xs ≤ 1048576) :
    Calls Tryz.prog 7 #[.slice ka kn kc', .slice ma mn mc, .slice xa xn xc] w fun e w' => e = .returned (.bool true) ∧ Below w.heap.size w w' := by
  have HN := Lib.hid (fun W => known17_any hE hD W)
  have HPE := Lib.hid hE
  have HPD := Lib.hid hD
  have HX := Lib.hid (fun W (hb : Below w.heap.size w W) => hx.below hb)
  have HKR := Lib.hid (fun W (hb : Below w.heap.size w W) => hk.below hb (Nat.le_refl _))
  have HMR := Lib.hid (fun W (hb : Below w.heap.size w W) => hmr.below hb (Nat.le_refl _))
  have HSX := Lib.hid (fun W (hb : Below w.heap.size w W) => size_any _ xs W (hx.below hb))
  have hWW : ∀ k ∈ ks ++ more, KeyW k := fun k hk => (List.mem_append.1 hk).elim (hW k) (hWm k)
  have HWW := Lib.hid hWW
  obtain ⟨i0, hi0, hz0, hz1, hz2⟩ : ∃ i, Tryz.prog.info? 49 = some i ∧ i.zero = some (.agg #[.int .i64 0, .bool false, .int .u8 0, .bool false, .bool false, .int .i64 0]) ∧ i.size = 6 ∧ i.bytes = 24 := ⟨_, rfl, rfl, rfl, rfl⟩
  by_cases hm : mayKs ks
  · have HNEW := Lib.hid (new_yes hk hW hm)
    by_cases hm2 : mayKs (ks ++ more)
    · skip
      have HDX := Lib.hid (show Din ks xs from ⟨hm.2, hdx, htx⟩)
      have HDT := Lib.hid (show Din (ks ++ more) xs from ⟨hm2.2, hdx, htx⟩)
      have HMK := Lib.hid hm
      have HMT := Lib.hid hm2
      have HTX := Lib.hid htx
      clear hk hW hmr hWm hx hdx htx hE hD hWW
      go_enter Tryz.func7, Tryz.ntmps7
      go_upto_region 2 with (go_at_call 8; (with_reducible refine HNEW.out.mono ?_); rintro e w1 ⟨s, rfl, hs, hb⟩; have HB1 := Lib.hid hb; have HS1 := Lib.hid hs; clear hb hs)
      clear HNEW
      go_upto_region 3 with (first
        | (at_builtin; go_loud (refine wpList_append_row (C := keyC) rfl (.tmp 27) (.tmp 28) 22 rfl w1.heap.size 49 i0 _ 24 Tryz.underlying22 hi0 hz0 hz1 hz2 rfl _ ks.length (fl keyC ks) rfl HOW2.out _ more rfl (HMR.out w2 HBB2.out).row (by unfold maxLen; omega) (by omega) (grown_app2 HG2.out).size ?_; intro v3 w3 hown3 hgrow3; obtain ⟨hk3, hb3⟩ := two_rows2 HOW2.out HG2.out hown3 hgrow3; have HK3 := Lib.hid hk3; have HB3 := Lib.hid (below_add HB1.out hb3 HB1.out.size); obtain ⟨a3, c3, rfl, -, -⟩ := own_shape hown3; clear hown3 hgrow3 hk3; have HS3 := Lib.hid (HS1.out.below hb3 (Nat.le_refl _)); clear hb3))
        | (at_builtin; go_loud (refine wpList_append_row (C := keyC) rfl (.tmp 25) (.tmp 26) 22 rfl w1.heap.size 49 i0 _ 24 Tryz.underlying22 hi0 hz0 hz1 hz2 rfl _ 0 [] rfl (owns_none w1 49 6) _ ks rfl ((HKR.out w1 HB1.out).below (kbelow_one w1 _) (Nat.le_refl _)).row (by unfold maxLen; omega) (by omega) (by simp) ?_; intro v2 w2 hown2 hgrow2; have h2 : w2.ownsRow w1.heap.size 49 6 v2 ks.length (fl keyC ks) := (by have q : w2.ownsRow w1.heap.size 49 6 v2 (0 + ks.length) (fl keyC ks) := hown2; rw [Nat.zero_add] at q; exact q); have HOW2 := Lib.hid h2; have HG2 := Lib.hid hgrow2; have HBB2 := Lib.hid (below_add HB1.out (grown_app2 hgrow2) HB1.out.size); obtain ⟨a2, c2, rfl, -, -⟩ := own_shape h2; clear h2 hown2 hgrow2))
        | (go_at_call 8; (refine (new_yes HK3.out HWW.out hm2).mono ?_); rintro e w4 ⟨s4, rfl, hs, hb⟩; have HB4 := Lib.hid (below_add HB3.out hb HB3.out.size); have HT4 := Lib.hid hs; have HS4 := Lib.hid (HS3.out.below hb (Nat.le_refl _)); clear hb hs))
      have HSX4 := Lib.hid (HSX.out _ HB4.out)
      clear HS1 HS3 HB1 HB3 HK3 HOW2 HG2 HBB2 HSX hm hm2
      go_wp2_with (go_at_call 9; (with_reducible refine HSX4.out.mono ?_))
      rintro e w5 ⟨⟨n, rfl⟩, hb⟩
      have HB5 := Lib.hid (below_add HB4.out hb HB4.out.size)
      have HS5 := Lib.hid (HS4.out.below hb (Nat.le_refl _))
      have HT5 := Lib.hid (HT4.out.below hb (Nat.le_refl _))
      clear hb HSX4 HS4 HT4 HB4
      by_cases hn : 200 < n
      · have hd : decide (200 < n) = true := decide_eq_true hn
        clear hn
        go_wp2_with (go_at_call 10; (with_reducible refine (HN.out _).mono ?_); rintro e w9 ⟨rfl, hb⟩; have HB9 := Lib.hid (below_add HB5.out hb HB5.out.size); clear hb)
        go_ret
        exact ⟨rfl, HB9.out⟩
      have hd : decide (200 < n) = false := decide_eq_false hn
      clear hn
      obtain ⟨f, hf⟩ : ∃ f, mayX ks (xs.map Oz.o) = f := ⟨_, rfl⟩
      obtain ⟨g, hg⟩ : ∃ f, mayX (ks ++ more) (xs.map Oz.o) = f := ⟨_, rfl⟩
      have HF := Lib.hid hf
      have HG := Lib.hid hg
      have HEX := Lib.hid (penc_x HPE.out HS5.out (HX.out _ HB5.out) HDX.out hf rfl)
      clear hf hg
      go_wp2_with (go_at_call 12; (with_reducible refine HEX.out.mono ?_))
      rintro e w6 ⟨a6, n6, c6, rfl, hi6, hb⟩
      have HB6 := Lib.hid (below_add HB5.out hb HB5.out.size)
      have HS6 := Lib.hid (HS5.out.below hb (Nat.le_refl _))
      have HT6 := Lib.hid (HT5.out.below hb (Nat.le_refl _))
      have HI6 := Lib.hid hi6
      have HEY := Lib.hid (penc_x HPE.out HT6.out (HX.out _ HB6.out) HDT.out HG.out rfl)
      clear hb HB5 HS5 HT5 HEX hi6
      go_wp2_with (go_at_call 12; (with_reducible refine HEY.out.mono ?_))
      rintro e w7 ⟨a7, n7, c7, rfl, hi7, hb⟩
      have HB7 := Lib.hid (below_add HB6.out hb HB6.out.size)
      have HS7 := Lib.hid (HS6.out.below hb (Nat.le_refl _))
      have HT7 := Lib.hid (HT6.out.below hb (Nat.le_refl _))
      have HI7 := Lib.hid (fun h => (HI6.out h).below hb)
      have HJ7 := Lib.hid hi7
      clear hb HB6 HS6 HT6 HEY hi7 HI6
      by_cases hf0 : f = 0
      · subst hf0
        obtain rfl : g = 0 := by rw [← HG.out]; exact may_more HF.out
        obtain ⟨L, hL⟩ : ∃ L, encX (formO (xs.map Oz.o)) = L := ⟨_, rfl⟩
        have hI := HI7.out rfl
        have hJ := HJ7.out rfl
        have hX1 := decX_form HDX.out HF.out
        have hX2 := decX_form HDT.out HG.out
        have hoL := form_okb HDX.out HF.out
        have hlL : (encX (formO (xs.map Oz.o))).length ≤ 50000000 := by have h1 := form_len HDX.out HF.out; have := HTX.out; omega
        rw [hL] at hI hJ hX1 hX2 hoL hlL
        have e6 : n6 = L.length := by obtain ⟨_, _, e⟩ := hI.shape; exact (Value.slice.inj e).2.1
        have e7 : n7 = L.length := by obtain ⟨_, _, e⟩ := hJ.shape; exact (Value.slice.inj e).2.1
        subst e6
        subst e7
        have HI := Lib.hid hI
        have HJ := Lib.hid hJ
        have HD1 := Lib.hid (pdec_yes HPD.out HS7.out HMK.out hI hoL hlL hX1)
        have HD2 := Lib.hid (fun W (hb : Below w7.heap.size w7 W) => pdec_yes HPD.out (HT7.out.below hb (Nat.le_refl _)) HMT.out (hJ.below hb) hoL hlL hX2)
        clear hI hJ hX1 hX2 hoL hlL hL HI7 HJ7
        go_wp2_with fail
        with_reducible refine HD1.out.mono ?_
        rintro e w8 ⟨a8, n8, c8, ys, rfl, -, hy, ho, hb⟩
        have HB8 := Lib.hid (below_add HB7.out hb HB7.out.size)
        have HY8 := Lib.hid ho.orow
        have HYM := Lib.hid hy
        have HBX := Lib.hid hb
        have HD3 := Lib.hid (HD2.out _ hb)
        clear hb hy ho HD1 HD2
        go_wp2_with fail
        with_reducible refine HD3.out.mono ?_
        rintro e w10 ⟨a10, n10, c10, zs, rfl, -, hz, ho, hb⟩
        have HB10 := Lib.hid (below_add HB8.out hb HB8.out.size)
        have hcI := conv_ints _ _ w10 ((HI.out.below HBX.out).below hb)
        have hcJ := conv_ints _ _ w10 ((HJ.out.below HBX.out).below hb)
        have HSM := Lib.hid (show Calls Tryz.prog 14 #[.slice a8 n8 c8, .slice a10 n10 c10] w10 (fun e w' => e = .returned (.bool true) ∧ Below w10.heap.size w10 w') from (rosame_any _ _ ys zs w10 (HY8.out.below hb) ho.orow).mono fun e w' h => ⟨by rw [h.1, decide_eq_true (by rw [HYM.out, hz])], h.2⟩)
        clear hb hz ho HD3
        go_wp2_with (first
          | (go_at_call 14; go_loud (refine HSM.out.mono ?_; rintro e w11 ⟨rfl, hb⟩; have HB11 := Lib.hid (below_add HB10.out hb HB10.out.size); clear hb))
          | (go_at_call 10; (with_reducible refine (HN.out _).mono ?_); rintro e w9 ⟨rfl, hb⟩; have HB9 := Lib.hid (below_add HB11.out hb HB11.out.size); clear hb))
        go_ret
        exact ⟨rfl, HB9.out⟩
      · have h1 : (f != 0) = true := by simpa using hf0
        clear hf0
        go_wp2_with (go_at_call 10; (with_reducible refine (HN.out _).mono ?_); rintro e w9 ⟨rfl, hb⟩; have HB9 := Lib.hid (below_add HB7.out hb HB7.out.size); clear hb)
        go_ret
        exact ⟨rfl, HB9.out⟩
    · clear hk hW hmr hWm hx hdx htx hE hD hWW hm
      go_enter Tryz.func7, Tryz.ntmps7
      go_upto_region 2 with (go_at_call 8; (with_reducible refine HNEW.out.mono ?_); rintro e w1 ⟨s, rfl, hs, hb⟩; have HB1 := Lib.hid hb; have HS1 := Lib.hid hs; clear hb hs)
      clear HNEW
      go_upto_region 3 with (first
        | (at_builtin; go_loud (refine wpList_append_row (C := keyC) rfl (.tmp 27) (.tmp 28) 22 rfl w1.heap.size 49 i0 _ 24 Tryz.underlying22 hi0 hz0 hz1 hz2 rfl _ ks.length (fl keyC ks) rfl HOW2.out _ more rfl (HMR.out w2 HBB2.out).row (by unfold maxLen; omega) (by omega) (grown_app2 HG2.out).size ?_; intro v3 w3 hown3 hgrow3; obtain ⟨hk3, hb3⟩ := two_rows2 HOW2.out HG2.out hown3 hgrow3; have HK3 := Lib.hid hk3; have HB3 := Lib.hid (below_add HB1.out hb3 HB1.out.size); obtain ⟨a3, c3, rfl, -, -⟩ := own_shape hown3; clear hown3 hgrow3 hk3; have HS3 := Lib.hid (HS1.out.below hb3 (Nat.le_refl _)); clear hb3))
        | (at_builtin; go_loud (refine wpList_append_row (C := keyC) rfl (.tmp 25) (.tmp 26) 22 rfl w1.heap.size 49 i0 _ 24 Tryz.underlying22 hi0 hz0 hz1 hz2 rfl _ 0 [] rfl (owns_none w1 49 6) _ ks rfl ((HKR.out w1 HB1.out).below (kbelow_one w1 _) (Nat.le_refl _)).row (by unfold maxLen; omega) (by omega) (by simp) ?_; intro v2 w2 hown2 hgrow2; have h2 : w2.ownsRow w1.heap.size 49 6 v2 ks.length (fl keyC ks) := (by have q : w2.ownsRow w1.heap.size 49 6 v2 (0 + ks.length) (fl keyC ks) := hown2; rw [Nat.zero_add] at q; exact q); have HOW2 := Lib.hid h2; have HG2 := Lib.hid hgrow2; have HBB2 := Lib.hid (below_add HB1.out (grown_app2 hgrow2) HB1.out.size); obtain ⟨a2, c2, rfl, -, -⟩ := own_shape h2; clear h2 hown2 hgrow2))
        | (go_at_call 8; (refine (new_no HK3.out HWW.out hm2).mono ?_); rintro e w4 ⟨rfl, hb⟩; have HB4 := Lib.hid (below_add HB3.out hb HB3.out.size); clear hb))
      go_wp2_with (go_at_call 10; (with_reducible refine (HN.out _).mono ?_); rintro e w9 ⟨rfl, hb⟩; have HB9 := Lib.hid (below_add HB4.out hb HB4.out.size); clear hb)
      go_ret
      exact ⟨rfl, HB9.out⟩
  · have HNEW := Lib.hid (new_no hk hW hm)
    by_cases hm2 : mayKs (ks ++ more)
    · clear hk hW hmr hWm hx hdx htx hE hD hWW hm
      go_enter Tryz.func7, Tryz.ntmps7
      go_upto_region 2 with (go_at_call 8; (with_reducible refine HNEW.out.mono ?_); rintro e w1 ⟨rfl, hb⟩; have HB1 := Lib.hid hb; clear hb)
      clear HNEW
      go_upto_region 3 with (first
        | (at_builtin; go_loud (refine wpList_append_row (C := keyC) rfl (.tmp 27) (.tmp 28) 22 rfl w1.heap.size 49 i0 _ 24 Tryz.underlying22 hi0 hz0 hz1 hz2 rfl _ ks.length (fl keyC ks) rfl HOW2.out _ more rfl (HMR.out w2 HBB2.out).row (by unfold maxLen; omega) (by omega) (grown_app2 HG2.out).size ?_; intro v3 w3 hown3 hgrow3; obtain ⟨hk3, hb3⟩ := two_rows2 HOW2.out HG2.out hown3 hgrow3; have HK3 := Lib.hid hk3; have HB3 := Lib.hid (below_add HB1.out hb3 HB1.out.size); obtain ⟨a3, c3, rfl, -, -⟩ := own_shape hown3; clear hown3 hgrow3 hk3;  clear hb3))
        | (at_builtin; go_loud (refine wpList_append_row (C := keyC) rfl (.tmp 25) (.tmp 26) 22 rfl w1.heap.size 49 i0 _ 24 Tryz.underlying22 hi0 hz0 hz1 hz2 rfl _ 0 [] rfl (owns_none w1 49 6) _ ks rfl ((HKR.out w1 HB1.out).below (kbelow_one w1 _) (Nat.le_refl _)).row (by unfold maxLen; omega) (by omega) (by simp) ?_; intro v2 w2 hown2 hgrow2; have h2 : w2.ownsRow w1.heap.size 49 6 v2 ks.length (fl keyC ks) := (by have q : w2.ownsRow w1.heap.size 49 6 v2 (0 + ks.length) (fl keyC ks) := hown2; rw [Nat.zero_add] at q; exact q); have HOW2 := Lib.hid h2; have HG2 := Lib.hid hgrow2; have HBB2 := Lib.hid (below_add HB1.out (grown_app2 hgrow2) HB1.out.size); obtain ⟨a2, c2, rfl, -, -⟩ := own_shape h2; clear h2 hown2 hgrow2))
        | (go_at_call 8; (refine (new_yes HK3.out HWW.out hm2).mono ?_); rintro e w4 ⟨s4, rfl, hs, hb⟩; have HB4 := Lib.hid (below_add HB3.out hb HB3.out.size); have HT4 := Lib.hid hs; clear hb hs))
      go_wp2_with (go_at_call 10; (with_reducible refine (HN.out _).mono ?_); rintro e w9 ⟨rfl, hb⟩; have HB9 := Lib.hid (below_add HB4.out hb HB4.out.size); clear hb)
      go_ret
      exact ⟨rfl, HB9.out⟩
    · clear hk hW hmr hWm hx hdx htx hE hD hWW hm
      go_enter Tryz.func7, Tryz.ntmps7
      go_upto_region 2 with (go_at_call 8; (with_reducible refine HNEW.out.mono ?_); rintro e w1 ⟨rfl, hb⟩; have HB1 := Lib.hid hb; clear hb)
      clear HNEW
      go_upto_region 3 with (first
        | (at_builtin; go_loud (refine wpList_append_row (C := keyC) rfl (.tmp 27) (.tmp 28) 22 rfl w1.heap.size 49 i0 _ 24 Tryz.underlying22 hi0 hz0 hz1 hz2 rfl _ ks.length (fl keyC ks) rfl HOW2.out _ more rfl (HMR.out w2 HBB2.out).row (by unfold maxLen; omega) (by omega) (grown_app2 HG2.out).size ?_; intro v3 w3 hown3 hgrow3; obtain ⟨hk3, hb3⟩ := two_rows2 HOW2.out HG2.out hown3 hgrow3; have HK3 := Lib.hid hk3; have HB3 := Lib.hid (below_add HB1.out hb3 HB1.out.size); obtain ⟨a3, c3, rfl, -, -⟩ := own_shape hown3; clear hown3 hgrow3 hk3;  clear hb3))
        | (at_builtin; go_loud (refine wpList_append_row (C := keyC) rfl (.tmp 25) (.tmp 26) 22 rfl w1.heap.size 49 i0 _ 24 Tryz.underlying22 hi0 hz0 hz1 hz2 rfl _ 0 [] rfl (owns_none w1 49 6) _ ks rfl ((HKR.out w1 HB1.out).below (kbelow_one w1 _) (Nat.le_refl _)).row (by unfold maxLen; omega) (by omega) (by simp) ?_; intro v2 w2 hown2 hgrow2; have h2 : w2.ownsRow w1.heap.size 49 6 v2 ks.length (fl keyC ks) := (by have q : w2.ownsRow w1.heap.size 49 6 v2 (0 + ks.length) (fl keyC ks) := hown2; rw [Nat.zero_add] at q; exact q); have HOW2 := Lib.hid h2; have HG2 := Lib.hid hgrow2; have HBB2 := Lib.hid (below_add HB1.out (grown_app2 hgrow2) HB1.out.size); obtain ⟨a2, c2, rfl, -, -⟩ := own_shape h2; clear h2 hown2 hgrow2))
        | (go_at_call 8; (refine (new_no HK3.out HWW.out hm2).mono ?_); rintro e w4 ⟨rfl, hb⟩; have HB4 := Lib.hid (below_add HB3.out hb HB3.out.size); clear hb))
      go_wp2_with (go_at_call 10; (with_reducible refine (HN.out _).mono ?_); rintro e w9 ⟨rfl, hb⟩; have HB9 := Lib.hid (below_add HB4.out hb HB4.out.size); clear hb)
      go_ret
      exact ⟨rfl, HB9.out⟩
end Go.Proofs.YtohgopibimgjfaaGreat
