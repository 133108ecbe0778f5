
import Derived.Test.YthbehjilabedoaaA21
import Derived.Test.YthbehjilabedoaaA20
/- A22: AttrsParts -/
namespace Go.Proofs.Ythbehjilabedoaa
open Go.RowKit
set_option linter.unusedVariables false

theorem same_yes (v1 v2 : Value) (xs : List Att) (w : World) (h1 : Arow w v1 xs) (h2 : Arow w v2 xs) :
    Calls Try.prog 14 #[v1, v2] w fun e w' => e = .returned (.bool true) ∧ Below w.heap.size w w' := by
  have := same_any5 v1 v2 xs xs w h1 h2
  rwa [decide_eq_true rfl] at this
theorem part_none5 (p : Value) (ks : List Key) (v : Value) (xs : List Att) (blk : Bool) (w : World) (hs : Sch w p ks) (hv : Arow w v (part5 ks (!blk) xs)) (hW : ∀ a ∈ xs, AttW a) (hl : xs.length ≤ 1000) :
    Calls Try.prog 21 #[p, v, .bool blk] w fun e w' => ∃ a cap, e = .returned (.slice a 0 cap) ∧ Below w.heap.size w w' := by
  have hle := part_le ks (!blk) xs
  refine (part_any p ks v _ blk w hs hv (attw_part hW) (by omega)).mono fun e w' ⟨u, he, ho, hb⟩ => ?_
  have := part_other (ks := ks) (xs := xs) (!blk)
  rw [Bool.not_not] at this
  rw [this] at ho
  obtain ⟨a, cap, rfl⟩ := ho.row.shape
  exact ⟨a, cap, he, hb⟩

theorem part_noneT (p : Value) (ks : List Key) (v : Value) (xs : List Att) (w : World) (hs : Sch w p ks) (hv : Arow w v (part5 ks false xs)) (hW : ∀ a ∈ xs, AttW a) (hl : xs.length ≤ 1000) :
    Calls Try.prog 21 #[p, v, .bool true] w fun e w' => ∃ a cap, e = .returned (.slice a 0 cap) ∧ Below w.heap.size w w' := part_none5 p ks v xs true w hs hv hW hl
theorem part_noneF (p : Value) (ks : List Key) (v : Value) (xs : List Att) (w : World) (hs : Sch w p ks) (hv : Arow w v (part5 ks true xs)) (hW : ∀ a ∈ xs, AttW a) (hl : xs.length ≤ 1000) :
    Calls Try.prog 21 #[p, v, .bool false] w fun e w' => ∃ a cap, e = .returned (.slice a 0 cap) ∧ Below w.heap.size w w' := part_none5 p ks v xs false w hs hv hW hl
theorem with_both (v : Value) (ls : List Att) (a : Att) (hr : Rise ls) (hl : ls.length ≤ 1000) (w : World) (hv : Arow w v ls) :
    Calls Try.prog 19 #[v, av a] w fun e w' => ∃ u, e = .returned u ∧ Hid (Arow w' u (with5 ls a)) ∧ Below w.heap.size w w' :=
  (with_rise v ls a hr w hv hl).mono fun e w' ⟨u, he, ho, hb⟩ => ⟨u, he, Lib.hid ho.row, hb⟩

set_option maxRecDepth 100000 in
set_option maxHeartbeats 1000000 in
theorem parts_walk (v : Value) (ks : List Key) (u : Value) (xs : List Att) (w : World) (hv : Krow w v ks) (hK : ∀ k ∈ ks, KeyW k) (hu : Arow w u xs) (hX : ∀ b ∈ xs, AttW b) :
    Calls Try.prog 5 #[v, u] w fun e w' => e = .returned (.bool true) ∧ Below w.heap.size w w' := by
  have HK := Lib.hid (fun w => known_any5 w)
  have hB0 := Below.refl w.heap.size w
  have hlk := hv.len
  have hlx := hu.len
  have HV := Lib.hid hv
  have HU := Lib.hid hu
  obtain ⟨kb, kcap, rfl⟩ := hv.shape
  obtain ⟨ub, ucap, rfl⟩ := hu.shape
  clear hv hu
  by_cases hk64 : 64 < ks.length
  · have d1 : decide ((64 : Int) < (ks.length : Int)) = true := by rw [decide_eq_true_iff]; omega
    clear hk64 hX hK
    go_enter Try.func5, Try.ntmps5
    go_wp2_with (go_at_call 9; refine (HK.out _).mono ?_; rintro e w9 ⟨rfl, hb9⟩)
    go_ret
    exact ⟨rfl, hb9⟩
  have d1 : decide ((64 : Int) < (ks.length : Int)) = false := by rw [decide_eq_false_iff_not]; omega
  have hgr := fun w hu => great_any (.slice ub xs.length ucap) xs w hu
  by_cases hg : great5 xs
  · rw [decide_eq_true hg] at hgr
    have HG := Lib.hid (hgr _ HU.out)
    clear hk64 hX hK hgr hg
    go_enter Try.func5, Try.ntmps5
    go_wp2_with (first
      | (go_at_call 8; refine HG.out.mono ?_; rintro e w8 ⟨rfl, rfl⟩)
      | (go_at_call 9; refine (HK.out _).mono ?_; rintro e w9 ⟨rfl, hb9⟩))
    go_ret
    exact ⟨rfl, hb9⟩
  rw [decide_eq_false hg] at hgr
  have HG := Lib.hid (hgr _ HU.out)
  obtain ⟨hl100, -⟩ := not_great hg
  clear hgr hg hlx
  by_cases hm : mayKs ks
  · have HN := Lib.hid (new_yes HV.out hK hm)
    have hk := hm.1
    by_cases hz : may5 ks xs = 0
    · have hr := ((may_iff hk).1 hz).1
      have hf := ((may_iff hk).1 hz).2
      have HM0 := Lib.hid (fun s w hs hu => may_eq5 (.pointer (some s)) ks (.slice ub xs.length ucap) xs 0 hz w hs hu hX)
      have HPF := Lib.hid (fun s w hs hu => part_any (.pointer (some s)) ks (.slice ub xs.length ucap) xs false w hs hu hX (by omega))
      have HPT := Lib.hid (fun s w hs hu => part_any (.pointer (some s)) ks (.slice ub xs.length ucap) xs true w hs hu hX (by omega))
      have hlF := part_le ks false xs
      have hlT := part_le ks true xs
      have HCP := Lib.hid (fun v w hv => copy_any5 v (part5 ks false xs) w hv (by omega))
      have HN1 := Lib.hid (fun s v w hs hv => part_noneT (.pointer (some s)) ks v xs w hs hv hX (by omega))
      have HN2 := Lib.hid (fun s v w hs hv => part_noneF (.pointer (some s)) ks v xs w hs hv hX (by omega))
      have HBO := Lib.hid (part_both hf)
      have HZ := Lib.hid (both_zero (ks := ks) hr)
      have HST := Lib.hid (fun k ls (h : Both ks xs k ls) hk => both_step hr h hk)
      have HEN := Lib.hid (fun ls (h : Both ks xs (part5 ks true xs).length ls) => both_end hr hf h)
      have HFW := Lib.hid (fun k ls (h : Both ks xs k ls) => both_few h)
      have HRI := Lib.hid (fun k ls (h : Both ks xs k ls) => h.1)
      clear hk64 hX hK hm hz hr hk hf
      go_enter Try.func5, Try.ntmps5
      go_wp2_with (first
        | (go_at_call 8; refine HG.out.mono ?_; rintro e w8 ⟨rfl, rfl⟩)
        | (go_at_call 10; refine HN.out.mono ?_; rintro e w1 ⟨s, rfl, hs1, hE1⟩; have HU1 := Lib.hid (HU.out.below hE1 (Nat.le_refl _)); have HS1 := Lib.hid hs1; clear hs1)
        | (go_at_call 12; with_reducible (refine (HM0.out s _ HS1.out HU1.out).mono ?_); rintro e w2 ⟨rfl, hb2⟩; have hE2 := below_add hE1 hb2 hE1.size; have HU2 := Lib.hid (HU1.out.below hb2 (Nat.le_refl _)); have HS2 := Lib.hid (HS1.out.below hb2 (Nat.le_refl _)))
        | (go_at_call 21; with_reducible (refine (HPF.out s _ HS2.out HU2.out).mono ?_); rintro e w3 ⟨u3, rfl, ho3, hb3⟩; have hE3 := below_add hE2 hb3 hE2.size; have HU3 := Lib.hid (HU2.out.below hb3 (Nat.le_refl _)); have HS3 := Lib.hid (HS2.out.below hb3 (Nat.le_refl _)); have HR3 := Lib.hid ho3.row; obtain ⟨q3, c3, rfl⟩ := HR3.out.shape; clear ho3)
        | (go_at_call 21; with_reducible (refine (HPT.out s _ HS3.out HU3.out).mono ?_); rintro e w4 ⟨u4, rfl, ho4, hb4⟩; have hE4 := below_add hE3 hb4 hE3.size; have HU4 := Lib.hid (HU3.out.below hb4 (Nat.le_refl _)); have HS4 := Lib.hid (HS3.out.below hb4 (Nat.le_refl _)); have HF4 := Lib.hid (HR3.out.below hb4 (Nat.le_refl _)); have HT4 := Lib.hid ho4.row; obtain ⟨q4, c4, rfl⟩ := HT4.out.shape; clear ho4)
        | (go_at_call 16; with_reducible (refine (HCP.out _ _ HF4.out).mono ?_); rintro e w5 ⟨u5, rfl, ho5, hb5⟩; have hE5 := below_add hE4 hb5 hE4.size; have HU5 := Lib.hid (HU4.out.below hb5 (Nat.le_refl _)); have HS5 := Lib.hid (HS4.out.below hb5 (Nat.le_refl _)); have HF5 := Lib.hid (HF4.out.below hb5 (Nat.le_refl _)); have HT5 := Lib.hid (HT4.out.below hb5 (Nat.le_refl _)); have HR5 := Lib.hid ho5.row; clear ho5))
      have HLT := Lib.hid hlT
      have HLF := Lib.hid hlF
      have hl64 : (part5 ks true xs).length ≤ 9223372036854775807 := by omega
      clear hlT hlF
      go_loopw [9, 43] (fun s9 s43 wr => ∃ (k : Nat) (ls : List Att), k ≤ (part5 ks true xs).length ∧ s43 = .int .i64 k ∧ Hid (Both ks xs k ls) ∧ Hid (Arow wr s9 ls) ∧ Below w5.heap.size w5 wr) (fun _ s43 _ => (part5 ks true xs).length - (intOf s43).toNat)
      case atStart => exact ⟨0, _, Nat.zero_le _, rfl, HZ, HR5, Below.refl _ _⟩
      case round =>
        obtain ⟨k, ls, hk, rfl, HBO2, HLS, hb⟩ := hrel
        by_cases hlt : k < (part5 ks true xs).length
        · obtain ⟨b4, o4, rfl, -, -, -, hbl4, hat4⟩ := Arow.opn HT5.out (by omega)
          obtain ⟨c0, c1, c2, c3', c4'⟩ := (hat4 k hlt).below hb hbl4
          have HBN := Lib.hid (HST.out k ls HBO2.out hlt)
          have hfew := HFW.out k ls HBO2.out
          have HWI := Lib.hid (fun v a w hv => with_both v ls a (HRI.out k ls HBO2.out) (by omega) w hv)
          clear hat4 hfew
          generalize (part5 ks true xs)[k] = x at *
          obtain ⟨x1, x2, x3, x4, x5⟩ := x
          simp only at c0 c1 c2 c3' c4'
          go_wp2_with (go_at_call 19; refine (HWI.out _ ⟨x1, x2, x3, x4, x5⟩ _ HLS.out).mono ?_; rintro e w6 ⟨u6, rfl, HR6, hb6⟩)
          go_roundw
          case rel => exact ⟨k + 1, _, by omega, by go_num, HBN, HR6, below_add hb hb6 hb.size⟩
          case measure => simp [intOf]; omega
        · obtain rfl : k = (part5 ks true xs).length := by omega
          have hen := HEN.out ls HBO2.out
          rw [hen] at HLS
          have hE6 := below_add hE5 hb hE5.size
          have HU6 := Lib.hid (HU5.out.below hb (Nat.le_refl _))
          have HS6 := Lib.hid (HS5.out.below hb (Nat.le_refl _))
          have HF6 := Lib.hid (HF5.out.below hb (Nat.le_refl _))
          have HT6 := Lib.hid (HT5.out.below hb (Nat.le_refl _))
          have hsum : ((part5 ks false xs).length : Int) + ((part5 ks true xs).length : Int) = (xs.length : Int) := by have := HBO.out; omega
          have hlF2 : ((part5 ks false xs).length : Int) ≤ 1000 := by have := HLF.out; omega
          have hlT2 : ((part5 ks true xs).length : Int) ≤ 1000 := by have := HLT.out; omega
          clear hen HBO2 hb
          go_wp2_with (first
            | (go_at_call 14; with_reducible (refine (same_yes _ _ xs _ HLS.out HU6.out).mono ?_); rintro e w7 ⟨rfl, hb7⟩; have hE7 := below_add hE6 hb7 hE6.size; have HS7 := Lib.hid (HS6.out.below hb7 (Nat.le_refl _)); have HF7 := Lib.hid (HF6.out.below hb7 (Nat.le_refl _)); have HT7 := Lib.hid (HT6.out.below hb7 (Nat.le_refl _)))
            | (go_at_call 21; with_reducible (refine (HN1.out s _ _ HS7.out HF7.out).mono ?_); rintro e w8 ⟨p8, d8, rfl, hb8⟩; have hE8 := below_add hE7 hb8 hE7.size; have HS8 := Lib.hid (HS7.out.below hb8 (Nat.le_refl _)); have HT8 := Lib.hid (HT7.out.below hb8 (Nat.le_refl _)))
            | (go_at_call 21; with_reducible (refine (HN2.out s _ _ HS8.out HT8.out).mono ?_); rintro e w9 ⟨p9, d9, rfl, hb9⟩; have hE9 := below_add hE8 hb9 hE8.size)
            | (go_at_call 9; refine (HK.out _).mono ?_; rintro e w12 ⟨rfl, hb12⟩))
          go_ret
          exact ⟨rfl, below_add hE9 hb12 hE9.size⟩
    · have HM0 := Lib.hid (fun s w hs hu => may_eq5 (.pointer (some s)) ks (.slice ub xs.length ucap) xs _ rfl w hs hu hX)
      have hz' : (may5 ks xs != 0) = true := by simpa using hz
      generalize may5 ks xs = m at *
      clear hk64 hX hK hm hz hk
      go_enter Try.func5, Try.ntmps5
      go_wp2_with (first
        | (go_at_call 8; refine HG.out.mono ?_; rintro e w8 ⟨rfl, rfl⟩)
        | (go_at_call 10; refine HN.out.mono ?_; rintro e w1 ⟨s, rfl, hs1, hE1⟩; have HU1 := Lib.hid (HU.out.below hE1 (Nat.le_refl _)); have HS1 := Lib.hid hs1; clear hs1)
        | (go_at_call 12; with_reducible (refine (HM0.out s _ HS1.out HU1.out).mono ?_); rintro e w2 ⟨rfl, hb2⟩; have hE2 := below_add hE1 hb2 hE1.size)
        | (go_at_call 9; refine (HK.out _).mono ?_; rintro e w12 ⟨rfl, hb12⟩))
      go_ret
      exact ⟨rfl, below_add hE2 hb12 hE2.size⟩
  · have HN := Lib.hid (new_no HV.out hK hm)
    clear hk64 hX hK hm
    go_enter Try.func5, Try.ntmps5
    go_wp2_with (first
      | (go_at_call 8; refine HG.out.mono ?_; rintro e w8 ⟨rfl, rfl⟩)
      | (go_at_call 10; refine HN.out.mono ?_; rintro e w1 ⟨rfl, hE1⟩)
      | (go_at_call 9; refine (HK.out _).mono ?_; rintro e w12 ⟨rfl, hb12⟩))
    go_ret
    exact ⟨rfl, below_add hE1 hb12 hE1.size⟩
end Go.Proofs.Ythbehjilabedoaa
