
import Derived.Test.YtckdmhklnnmjpaaOJ
/- OK: is, first half -/
namespace Go.Proofs.Ytckdmhklnnmjpaa
open Go.RowKit
set_option linter.unusedVariables false

/-- What the calls of 'is' stand on: the chunk's own row, the list, where its newlines are. -/
structure IsW (w : World) (l : List Int) (v u : Value) (W : World) : Prop where
  c : RowAt w.heap.size 27 (slots l) W
  v : Ints .i32 W v l
  u : Ints .i64 W u (posI l l.length)
  bel : Below w.heap.size w W
theorem IsW.below {w W W' : World} {l : List Int} {v u : Value} (h : IsW w l v u W) (hb : Below W.heap.size W W') : IsW w l v u W' := ⟨h.c.below hb, h.v.below hb, h.u.below hb, below_add h.bel hb h.bel.size⟩
theorem ints_of_owns {k : IntKind} {w : World} {base : Nat} {e : TypeId} {v : Value} {xs : List Int} (h : w.ownsRow base e 1 v xs.length (xs.map (Value.int k))) : Ints k w v xs := (Ints.of_owns h).1
theorem same9_yes (xs : List Int) : sameB9 xs xs = true := by simp [sameB9]

def atV (l : List Int) (i : Int) : Value := if 0 ≤ i ∧ i < l.length then .tuple #[.int .i32 (l.getD i.toNat 0), .int .i64 0] else .tuple #[.int .i32 0, .int .i64 5]
theorem owns_shape {W : World} {B : Nat} {e : TypeId} {ga : Option Addr} {n cap : Nat} {cs : List Value} (h : W.ownsRow B e 1 (.slice ga n cap) n cs) (h0 : 0 < n) : ∃ gb, ga = some ⟨gb, 0, none⟩ ∧ B ≤ gb := by
  rcases h.2 with ⟨h', h2⟩ | ⟨g, cap', cur, h', hb, -⟩
  · omega
  · simp only [Value.slice.injEq] at h'
    exact ⟨g, h'.1, hb⟩
theorem ints_cell {k : IntKind} {W : World} {b off n cap : Nat} {xs : List Int} (h : Ints k W (.slice (some ⟨b, off, none⟩) n cap) xs) {j : Nat} (hj : j < xs.length) : W.cell? ⟨b, off + j, none⟩ = some (.int k (xs.getD j 0)) := by
  obtain ⟨b', off', he, -, -, -, hc⟩ := h.opened (by omega)
  injection he with he
  injection he with e1 e2 e3
  subst e1 e2
  exact hc j hj
theorem nl_take_yes {l : List Int} {j : Nat} (hj : j < l.length) (h : (l.getD j 0 == 10) = true) : nl (l.take (j + 1)) = nl (l.take j) + 1 :=
  nl_yes (by rw [slots_in hj, beq_iff_eq]; rw [beq_iff_eq] at h; omega)
theorem nl_take_no {l : List Int} {j : Nat} (hj : j < l.length) (h : (l.getD j 0 == 10) = false) : nl (l.take (j + 1)) = nl (l.take j) :=
  nl_no (by rw [slots_in hj, beq_eq_false_iff_ne]; rw [beq_eq_false_iff_ne] at h; omega)
theorem nl_take_past {l : List Int} {j : Nat} (hj : l.length ≤ j) : nl (l.take (j + 1)) = nl (l.take j) := by rw [nl_all (by omega), nl_all hj]
theorem nlVal_none : nlVal none = .tuple #[.int .i64 0, .bool false] := rfl
theorem nlVal_some (p : Nat) : nlVal (some p) = .tuple #[.int .i64 (p : Nat), .bool true] := rfl
theorem nlAt_in {l : List Int} (h : l.length ≤ 32) {j : Nat} (hj : j < nl l) : ∃ p : Nat, nlAt l (j : Int) = some p ∧ (posI l l.length).getD j 0 = (p : Int) := by
  have hlen : (pos l l.length).length = nl l := by rw [pos_length, List.take_of_length_le (Nat.le_refl _)]
  refine ⟨(pos l l.length)[j]'(by omega), ?_, ?_⟩
  · unfold nlAt
    rw [if_neg (by omega), Int.toNat_natCast, pos_all h, List.getElem?_eq_getElem (by omega)]
  · unfold posI
    simp [List.getD, List.getElem?_map, List.getElem?_eq_getElem (show j < (pos l l.length).length by omega)]
theorem nlAt_out {l : List Int} (h : l.length ≤ 32) {i : Int} (hi : i < 0 ∨ (nl l : Int) ≤ i) : nlAt l i = none := nlAt_no (by rw [nl_all h]; exact hi)
theorem atV_in {l : List Int} {j : Nat} (h : j < l.length) : atV l j = .tuple #[.int .i32 (l.getD j 0), .int .i64 0] := by
  unfold atV; rw [if_pos (by omega), Int.toNat_natCast]
theorem atV_out {l : List Int} {i : Int} (h : i < 0 ∨ l.length ≤ i) : atV l i = .tuple #[.int .i32 0, .int .i64 5] := by
  unfold atV; rw [if_neg (by omega)]
theorem at_any (l : List Int) (h : Chunky l) (i : Int) (w : World) : Calls Try.prog 20 #[cv l, .int .i64 i] w fun e w' => e = .returned (atV l i) ∧ Below w.heap.size w w' := by
  unfold atV
  by_cases h0 : i < 0
  · rw [if_neg (by omega)]; exact at_neg l h i h0 w
  · by_cases h1 : (l.length : Int) ≤ i
    · rw [if_neg (by omega)]; exact at_past l h i h1 w
    · rw [if_pos (by omega)]
      have := at_in l h i.toNat (by omega) w
      rwa [show ((i.toNat : Nat) : Int) = i by omega] at this

set_option maxRecDepth 100000 in
set_option maxHeartbeats 4000000 in
theorem is_any (l : List Int) (h : Chunky l) (v : Value) (w : World) (hv : Ints .i32 w v l) : Calls Try.prog 13 #[cv l, v] w fun e w' => e = .returned (.bool true) ∧ Below w.heap.size w w' := by
  have R := rowAt_new w 27 (slots l)
  have B0 : Below w.heap.size w (w.alloc (.cells (row (slots l)) 27)) := (Below.refl _ _).alloc (Nat.le_refl _) _
  have HI := Lib.hid (info_chunk32 _ (slots_len h.1))
  have hl32 := h.1
  have hnl32 : nl l ≤ 32 := Nat.le_trans (nl_le l) h.1
  have HRN := Lib.hid (fun v w hv => rnl_any v l w hv (by omega))
  have HRU := Lib.hid (fun w => runes_any l h w)
  have HLN := Lib.hid (fun w => len_any l h w)
  have HNL := Lib.hid (fun w => newlines_any l h w)
  have HAH := Lib.hid (fun i w => ahead_any l h i w)
  have HAT := Lib.hid (fun i w => at_any l h i w)
  have HNA := Lib.hid (fun i w => newlineAt_any l h i w)
  have hpl : (posI l l.length).length = nl l := by rw [posI_len, List.take_of_length_le (Nat.le_refl _)]
  have HV0 := Lib.hid (hv.below B0)
  have HB0 := Lib.hid B0
  have HR0 := Lib.hid R
  obtain ⟨a, cap, rfl⟩ := hv.shape
  unfold cv at *
  clear hv B0 R
  go_enter Try.func13, Try.ntmps13
  go_wp2_with (first
    | (go_at_call 24; refine (HRN.out _ _ HV0.out).mono ?_; rintro e w1 ⟨u, rfl, o1, b1⟩; refine Hid.out ?_))
  have W1 := Lib.hid (show IsW w l (.slice a l.length cap) u w1 from ⟨HR0.out.below b1, HV0.out.below b1, ints_of_owns o1, below_add HB0.out b1 (by simp)⟩)
  obtain ⟨ua, ucap, rfl⟩ := (ints_of_owns o1).shape
  rw [hpl] at W1
  rw [hpl]
  clear b1 o1 HV0 HB0 HR0 HRN
  refine Lib.hid ?_
  go_wp2_with (first
    | (refine wpList_load_roww 27 (.tmp 2) rfl w.heap.size rfl (by rfl) _ _ _ _ W1.out.c Try.underlying27 rfl HI.out ?_)
    | (go_at_call 21; refine (HRU.out _).mono ?_; rintro e w2 ⟨g, rfl, o2, b2⟩; refine Hid.out ?_))
  have W2 := Lib.hid (W1.out.below b2)
  have O2 := Lib.hid o2
  have B2 := Lib.hid b2
  obtain ⟨ga, gcap, rfl⟩ := (ints_of_owns o2).shape
  have HSM := Lib.hid (fun wx (hx : IsW w l (.slice a l.length cap) (.slice ua (nl l) ucap) wx) (hb : Below w2.heap.size w2 wx) => by
    have hh := same9_any (.slice ga l.length gcap) (.slice a l.length cap) l l wx (ints_of_owns (owns_below O2.out hb)) hx.v
    rwa [same9_yes] at hh)
  clear b2 o2
  refine Lib.hid ?_
  go_wp2_with (first
    | (go_at_call 12; refine (HSM.out _ W2.out (Below.refl _ _)).mono ?_; rintro e w3 ⟨rfl, q, hq⟩; have W3 : Hid (IsW w l (.slice a l.length cap) (.slice ua (nl l) ucap) w3) := Lib.hid (by rw [hq]; exact W2.out.below (blw_drewN (Below.refl _ _) q)); have B3 : Hid (Below w1.heap.size w1 w3) := Lib.hid (by rw [hq]; exact blw_drewN B2.out q); have O3 := Lib.hid (show w3.ownsRow w1.heap.size 21 1 (.slice ga l.length gcap) l.length (l.map (Value.int .i32)) by rw [hq]; exact O2.out); clear hq)
    | (refine wpList_load_roww 27 (.tmp 2) rfl w.heap.size rfl (by rfl) _ _ _ _ W3.out.c Try.underlying27 rfl HI.out ?_)
    | (go_at_call 18; refine (HLN.out _).mono ?_; rintro e w4 ⟨rfl, b4⟩; have W4 := Lib.hid (W3.out.below b4); have B4 := Lib.hid (below_add B3.out b4 B3.out.size); have O4 := Lib.hid (owns_below O3.out b4); clear b4 W3)
    | (refine wpList_load_roww 27 (.tmp 2) rfl w.heap.size rfl (by rfl) _ _ _ _ W4.out.c Try.underlying27 rfl HI.out ?_)
    | (go_at_call 16; refine (HNL.out _).mono ?_; rintro e w5 ⟨rfl, b5⟩; have W5 := Lib.hid (W4.out.below b5); have B5 := Lib.hid (below_add B4.out b5 B4.out.size); have O5 := Lib.hid (owns_below O4.out b5); clear b5 W4 B4 B3 O4 O3; refine Hid.out ?_))
  clear HLN HNL
  refine Lib.hid ?_
  go_wp2
  go_loopw [39] (fun s39 wr => ∃ k : Nat, k ≤ l.length ∧ s39 = .int .i64 k ∧ Hid ((∃ cs, wr.ownsRow w1.heap.size 21 1 (.slice ga l.length gcap) l.length cs) ∧ Below w1.heap.size w1 wr)) (fun s39 _ => l.length - (intOf s39).toNat)
  case atStart => exact ⟨0, Nat.zero_le _, rfl, Lib.hid ⟨⟨_, O5.out⟩, B5.out⟩⟩
  case round =>
    rename_i wr
    obtain ⟨k, hk, rfl, HR⟩ := hrel
    have i0 : (0 : Int) ≤ (k : Int) := by omega
    by_cases hlt : k < l.length
    · obtain ⟨⟨cs, ho⟩, hb⟩ := HR.out
      obtain ⟨gb, rfl, hgb⟩ := owns_shape ho (by omega)
      have i1 : (k : Int) < l.length := by omega
      have hf := ho.frozenAt k
      have hc : ∃ v, wr.cell? ⟨gb, k, none⟩ = some v := by
        rw [ho.cellAt k (by omega)]
        have hsz := ho.1
        exact ⟨cs[k]'(by omega), List.getElem?_eq_getElem (by omega)⟩
      obtain ⟨v0, hc⟩ := hc
      have HE := Lib.hid (show (∃ cs, (wr.setCell ⟨gb, k, none⟩ (.int .i32 7)).ownsRow w1.heap.size 21 1 (.slice (some ⟨gb, 0, none⟩) l.length gcap) l.length cs) ∧ Below w1.heap.size w1 (wr.setCell ⟨gb, k, none⟩ (.int .i32 7)) from ⟨⟨_, (ho.stored k _).1⟩, hb.setCell hgb _⟩)
      clear ho hb HR O5 B5 W5 W2 HAH HAT HNA HSM O2 B2
      go_wp2
      go_roundw
      case rel => exact ⟨k + 1, by omega, by go_num, HE⟩
      case measure => simp [intOf]; omega
    · obtain rfl : k = l.length := by omega
      have W6 := Lib.hid (W1.out.below HR.out.2)
      clear O5 B5 W5 HR W2 O2 B2
      go_wp2
      go_loopw [8, 9] (fun s8 s9 wr => ∃ i : Int, -1 ≤ i ∧ i ≤ l.length + 2 ∧ s9 = .int .i64 i ∧ s8 = .int .i64 (nl (l.take (i - 1).toNat) : Nat) ∧ Hid (IsW w l (.slice a l.length cap) (.slice ua (nl l) ucap) wr)) (fun _ s9 _ => (l.length + 2 - intOf s9).toNat)
      case atStart => exact ⟨-1, by omega, by omega, rfl, rfl, W6⟩
      case round =>
        rename_i wr
        obtain ⟨i, hi0, hi1, rfl, rfl, V0⟩ := hrel
        clear W6 W1
        by_cases hend : i = l.length + 2
        · subst hend
          have g0 : ¬ (l.length : Int) + 2 ≤ l.length + 1 := by omega
          obtain ⟨N, hN⟩ : ∃ N, nl (l.take ((l.length : Int) + 2 - 1).toNat) = N := ⟨_, rfl⟩
          rw [hN]
          clear hN
          go_wp2
          have V := V0
          clear V0
          go_loopw [12] (fun s12 wr => ∃ i : Int, -1 ≤ i ∧ i ≤ nl l + 1 ∧ s12 = .int .i64 i ∧ Hid (IsW w l (.slice a l.length cap) (.slice ua (nl l) ucap) wr)) (fun s12 _ => (nl l + 1 - intOf s12).toNat)
          case atStart => exact ⟨-1, by omega, by omega, rfl, V⟩
          case round =>
            rename_i wr2
            obtain ⟨i, hi0, hi1, rfl, V0⟩ := hrel
            clear V
            by_cases hend : i = nl l + 1
            · subst hend
              have g1 : ¬ (nl l : Int) + 1 ≤ nl l := by omega
              have HBF := Lib.hid V0.out.bel
              clear HAH HAT HNA
              go_wp2_with (first
                | (refine wpList_load_roww 27 (.tmp 2) rfl w.heap.size rfl (by rfl) _ _ _ _ V0.out.c Try.underlying27 rfl HI.out ?_)
                | (go_at_call 21; refine (HRU.out _).mono ?_; rintro e wa ⟨g, rfl, oa, ba⟩; have OA := Lib.hid (ints_of_owns oa); have V1 := Lib.hid (V0.out.below ba); clear oa ba V0)
                | (go_at_call 12; refine (same9_any _ _ l l _ OA.out V1.out.v).mono ?_; rintro e wb ⟨rfl, q, rfl⟩))
              go_ret
              exact ⟨ret_bool (same9_yes l), blw_drewN V1.out.bel q⟩
            · have hi2 : i ≤ nl l := by omega
              have HT := Lib.hid (fun w => HNA.out i w)
              by_cases hm : i = -1
              · subst hm
                rw [nlAt_out hl32 (.inl (by omega)), nlVal_none] at HT
                have t0 : (-1 : Int) ≤ nl l := by omega
                clear HAH HAT HNA HSM HRU
                go_wp2_with (first
                  | (refine wpList_load_roww 27 (.tmp 2) rfl w.heap.size rfl (by rfl) _ _ _ _ V0.out.c Try.underlying27 rfl HI.out ?_)
                  | (go_at_call 19; refine (HT.out _).mono ?_; rintro e wa ⟨rfl, ba⟩; have V1 := Lib.hid (V0.out.below ba); clear ba V0))
                go_roundw
                case rel => exact ⟨0, by omega, by omega, by go_num, V1⟩
                case measure => simp [intOf] <;> omega
              · obtain ⟨j, rfl⟩ : ∃ j : Nat, i = (j : Int) := ⟨i.toNat, by omega⟩
                by_cases hj : j < nl l
                · obtain ⟨p, hp1, hp2⟩ := nlAt_in hl32 hj
                  rw [hp1, nlVal_some] at HT
                  obtain ⟨b, off, rfl, -, -, -, -⟩ := V0.out.u.opened (by rw [hpl]; omega)
                  have t0 : (j : Int) ≤ nl l := by omega
                  have t1 : ¬ (nl l : Int) ≤ j := by omega
                  have t2 : (0 : Int) ≤ j := by omega
                  have t3 : (j : Int) < nl l := by omega
                  have HP := Lib.hid hp2
                  clear hp1 hp2
                  clear HAH HAT HNA HSM HRU
                  go_wp2_with (first
                    | (refine wpList_load_roww 27 (.tmp 2) rfl w.heap.size rfl (by rfl) _ _ _ _ V0.out.c Try.underlying27 rfl HI.out ?_)
                    | (go_at_call 19; refine (HT.out _).mono ?_; rintro e wa ⟨rfl, ba⟩; have V1 := Lib.hid (V0.out.below ba); have hcb := ints_cell V1.out.u (j := j) (by rw [hpl]; omega); rw [HP.out] at hcb; clear ba V0))
                  go_roundw
                  case rel => exact ⟨(j : Int) + 1, by omega, by omega, by go_num, V1⟩
                  case measure => simp [intOf] <;> omega
                · have hjn : j = nl l := by omega
                  subst hjn
                  rw [nlAt_out hl32 (.inr (Int.le_refl _)), nlVal_none] at HT
                  have t1 : (nl l : Int) ≤ nl l := by omega
                  clear HAH HAT HNA HSM HRU
                  go_wp2_with (first
                    | (refine wpList_load_roww 27 (.tmp 2) rfl w.heap.size rfl (by rfl) _ _ _ _ V0.out.c Try.underlying27 rfl HI.out ?_)
                    | (go_at_call 19; refine (HT.out _).mono ?_; rintro e wa ⟨rfl, ba⟩; have V1 := Lib.hid (V0.out.below ba); clear ba V0))
                  go_roundw
                  case rel => exact ⟨(nl l : Int) + 1, by omega, by omega, by go_num, V1⟩
                  case measure => simp [intOf] <;> omega
        · have hi2 : i ≤ l.length + 1 := by omega
          have HA := Lib.hid (fun w => HAH.out i w)
          have HT := Lib.hid (fun w => HAT.out i w)
          by_cases hm : i = -1
          · subst hm
            rw [atV_out (.inl (by omega))] at HT
            rw [show nl (l.take (-1 : Int).toNat) = 0 from rfl] at HA
            rw [show nl (l.take ((-1 : Int) - 1).toNat) = 0 from rfl]
            have t0 : (-1 : Int) ≤ l.length + 1 := by omega
            clear HAH HAT HNA HSM HRU
            go_wp2_with (first
              | (refine wpList_load_roww 27 (.tmp 2) rfl w.heap.size rfl (by rfl) _ _ _ _ V0.out.c Try.underlying27 rfl HI.out ?_)
              | (go_at_call 17; refine (HA.out _).mono ?_; rintro e wa ⟨rfl, ba⟩; have V1 := Lib.hid (V0.out.below ba); clear ba V0)
              | (refine wpList_load_roww 27 (.tmp 2) rfl w.heap.size rfl (by rfl) _ _ _ _ V1.out.c Try.underlying27 rfl HI.out ?_)
              | (go_at_call 20; refine (HT.out _).mono ?_; rintro e wb ⟨rfl, bb⟩; have V2 := Lib.hid (V1.out.below bb); clear bb V1))
            go_roundw
            case rel => exact ⟨0, by omega, by omega, by go_num, rfl, V2⟩
            case measure => simp [intOf] <;> omega
          · by_cases hz : i = 0
            · subst hz
              rw [show nl (l.take (0 : Int).toNat) = 0 from rfl] at HA
              rw [show nl (l.take ((0 : Int) - 1).toNat) = 0 from rfl]
              have t0 : (0 : Int) ≤ l.length + 1 := by omega
              by_cases h0 : 0 < l.length
              · obtain ⟨b, off, rfl, -, -, -, -⟩ := V0.out.v.opened h0
                have e0 := atV_in h0
                rw [show ((0 : Nat) : Int) = 0 from rfl] at e0
                rw [e0] at HT
                have t1 : decide (l = []) = false := by rw [decide_eq_false_iff_not]; intro e; rw [e] at h0; simp at h0
                have t2 : (0 : Int) < l.length := by omega
                obtain ⟨r, hr⟩ : ∃ r, l.getD 0 0 = r := ⟨_, rfl⟩
                rw [hr] at HT
                have HR := Lib.hid hr
                clear hr
                clear HAH HAT HNA HSM HRU
                go_wp2_with (first
                  | (refine wpList_load_roww 27 (.tmp 2) rfl w.heap.size rfl (by rfl) _ _ _ _ V0.out.c Try.underlying27 rfl HI.out ?_)
                  | (go_at_call 17; refine (HA.out _).mono ?_; rintro e wa ⟨rfl, ba⟩; have V1 := Lib.hid (V0.out.below ba); clear ba V0)
                  | (refine wpList_load_roww 27 (.tmp 2) rfl w.heap.size rfl (by rfl) _ _ _ _ V1.out.c Try.underlying27 rfl HI.out ?_)
                  | (go_at_call 20; refine (HT.out _).mono ?_; rintro e wb ⟨rfl, bb⟩; have V2 := Lib.hid (V1.out.below bb); have hcb := ints_cell V2.out.v (j := 0) h0; rw [HR.out, Nat.add_zero] at hcb; clear bb V1))
                go_roundw
                case rel => exact ⟨1, by omega, by omega, by go_num, rfl, V2⟩
                case measure => simp [intOf] <;> omega
              · rw [atV_out (.inr (by omega))] at HT
                have t1 : decide (l = []) = true := by rw [decide_eq_true_iff]; exact List.eq_nil_of_length_eq_zero (by omega)
                clear HAH HAT HNA HSM HRU
                go_wp2_with (first
                  | (refine wpList_load_roww 27 (.tmp 2) rfl w.heap.size rfl (by rfl) _ _ _ _ V0.out.c Try.underlying27 rfl HI.out ?_)
                  | (go_at_call 17; refine (HA.out _).mono ?_; rintro e wa ⟨rfl, ba⟩; have V1 := Lib.hid (V0.out.below ba); clear ba V0)
                  | (refine wpList_load_roww 27 (.tmp 2) rfl w.heap.size rfl (by rfl) _ _ _ _ V1.out.c Try.underlying27 rfl HI.out ?_)
                  | (go_at_call 20; refine (HT.out _).mono ?_; rintro e wb ⟨rfl, bb⟩; have V2 := Lib.hid (V1.out.below bb); clear bb V1))
                go_roundw
                case rel => exact ⟨1, by omega, by omega, by go_num, rfl, V2⟩
                case measure => simp [intOf] <;> omega
            · obtain ⟨j, rfl⟩ : ∃ j : Nat, i = (j : Int) + 1 := ⟨(i - 1).toNat, by omega⟩
              have e1 : ((j : Int) + 1).toNat = j + 1 := by omega
              have e2 : ((j : Int) + 1 - 1).toNat = j := by omega
              have e3 : ((j : Int) + 1 + 1 - 1).toNat = j + 1 := by omega
              rw [e1] at HA
              rw [e2]
              clear e1 e2
              have t0 : (j : Int) + 1 ≤ l.length + 1 := by omega
              have t1 : (0 : Int) < j + 1 := by omega
              have t9 : ¬ ((j : Int) + 1 < 0) := by omega
              by_cases hjl : j < l.length
              · obtain ⟨b, off, rfl, -, -, -, -⟩ := V0.out.v.opened (by omega)
                have t2 : (j : Int) + 1 ≤ l.length := by omega
                have t3 : (0 : Int) ≤ j := by omega
                have t4 : (j : Int) < l.length := by omega
                have hcj := ints_cell V0.out.v hjl
                have YES := Lib.hid (nl_take_yes hjl)
                have NO := Lib.hid (nl_take_no hjl)
                obtain ⟨x, hx⟩ : ∃ x, l.getD j 0 = x := ⟨_, rfl⟩
                rw [hx] at hcj YES NO
                obtain ⟨c0, hc0⟩ : ∃ c0, nl (l.take j) = c0 := ⟨_, rfl⟩
                obtain ⟨c1, hc1⟩ : ∃ c1, nl (l.take (j + 1)) = c1 := ⟨_, rfl⟩
                rw [hc0, hc1] at YES NO
                rw [hc1] at HA
                have hle : c0 ≤ j := by rw [← hc0]; exact nl_take_le l j
                rw [hc0]
                have HC1 := Lib.hid (show Value.int .i64 (c1 : Nat) = .int .i64 (nl (l.take ((j : Int) + 1 + 1 - 1).toNat) : Nat) by rw [e3, hc1])
                clear hx hc0 hc1 e3
                by_cases hjn : j + 1 < l.length
                · have e0 := atV_in hjn
                  rw [show ((j + 1 : Nat) : Int) = (j : Int) + 1 from rfl] at e0
                  rw [e0] at HT
                  have t5 : ¬ (l.length : Int) ≤ j + 1 := by omega
                  have t6 : (j : Int) + 1 < l.length := by omega
                  have t7 : (0 : Int) ≤ j + 1 := by omega
                  have t8 : ((j : Int) + 1).toNat = j + 1 := by omega
                  obtain ⟨r, hr⟩ : ∃ r, l.getD (j + 1) 0 = r := ⟨_, rfl⟩
                  rw [hr] at HT
                  have HR := Lib.hid hr
                  clear hr e0
                  by_cases h10 : (x == 10) = true
                  · have Y := YES.out h10
                    subst Y
                    clear YES NO
                    clear HAH HAT HNA HSM HRU
                    go_wp2_with (first
                      | (refine wpList_load_roww 27 (.tmp 2) rfl w.heap.size rfl (by rfl) _ _ _ _ V0.out.c Try.underlying27 rfl HI.out ?_)
                      | (go_at_call 17; refine (HA.out _).mono ?_; rintro e wa ⟨rfl, ba⟩; have V1 := Lib.hid (V0.out.below ba); clear ba V0)
                      | (refine wpList_load_roww 27 (.tmp 2) rfl w.heap.size rfl (by rfl) _ _ _ _ V1.out.c Try.underlying27 rfl HI.out ?_)
                      | (go_at_call 20; refine (HT.out _).mono ?_; rintro e wb ⟨rfl, bb⟩; have V2 := Lib.hid (V1.out.below bb); have hcb := ints_cell V2.out.v hjn; rw [HR.out] at hcb; clear bb V1))
                    go_roundw
                    case rel => exact ⟨(j : Int) + 1 + 1, by omega, by omega, by go_num, HC1.out, V2⟩
                    case measure => simp [intOf] <;> omega
                  · rw [Bool.not_eq_true] at h10
                    have Y := NO.out h10
                    subst Y
                    clear YES NO
                    clear HAH HAT HNA HSM HRU
                    go_wp2_with (first
                      | (refine wpList_load_roww 27 (.tmp 2) rfl w.heap.size rfl (by rfl) _ _ _ _ V0.out.c Try.underlying27 rfl HI.out ?_)
                      | (go_at_call 17; refine (HA.out _).mono ?_; rintro e wa ⟨rfl, ba⟩; have V1 := Lib.hid (V0.out.below ba); clear ba V0)
                      | (refine wpList_load_roww 27 (.tmp 2) rfl w.heap.size rfl (by rfl) _ _ _ _ V1.out.c Try.underlying27 rfl HI.out ?_)
                      | (go_at_call 20; refine (HT.out _).mono ?_; rintro e wb ⟨rfl, bb⟩; have V2 := Lib.hid (V1.out.below bb); have hcb := ints_cell V2.out.v hjn; rw [HR.out] at hcb; clear bb V1))
                    go_roundw
                    case rel => exact ⟨(j : Int) + 1 + 1, by omega, by omega, by go_num, HC1.out, V2⟩
                    case measure => simp [intOf] <;> omega
                · rw [atV_out (.inr (by omega))] at HT
                  have t5 : (l.length : Int) ≤ j + 1 := by omega
                  by_cases h10 : (x == 10) = true
                  · have Y := YES.out h10
                    subst Y
                    clear YES NO
                    clear HAH HAT HNA HSM HRU
                    go_wp2_with (first
                      | (refine wpList_load_roww 27 (.tmp 2) rfl w.heap.size rfl (by rfl) _ _ _ _ V0.out.c Try.underlying27 rfl HI.out ?_)
                      | (go_at_call 17; refine (HA.out _).mono ?_; rintro e wa ⟨rfl, ba⟩; have V1 := Lib.hid (V0.out.below ba); clear ba V0)
                      | (refine wpList_load_roww 27 (.tmp 2) rfl w.heap.size rfl (by rfl) _ _ _ _ V1.out.c Try.underlying27 rfl HI.out ?_)
                      | (go_at_call 20; refine (HT.out _).mono ?_; rintro e wb ⟨rfl, bb⟩; have V2 := Lib.hid (V1.out.below bb); clear bb V1))
                    go_roundw
                    case rel => exact ⟨(j : Int) + 1 + 1, by omega, by omega, by go_num, HC1.out, V2⟩
                    case measure => simp [intOf] <;> omega
                  · rw [Bool.not_eq_true] at h10
                    have Y := NO.out h10
                    subst Y
                    clear YES NO
                    clear HAH HAT HNA HSM HRU
                    go_wp2_with (first
                      | (refine wpList_load_roww 27 (.tmp 2) rfl w.heap.size rfl (by rfl) _ _ _ _ V0.out.c Try.underlying27 rfl HI.out ?_)
                      | (go_at_call 17; refine (HA.out _).mono ?_; rintro e wa ⟨rfl, ba⟩; have V1 := Lib.hid (V0.out.below ba); clear ba V0)
                      | (refine wpList_load_roww 27 (.tmp 2) rfl w.heap.size rfl (by rfl) _ _ _ _ V1.out.c Try.underlying27 rfl HI.out ?_)
                      | (go_at_call 20; refine (HT.out _).mono ?_; rintro e wb ⟨rfl, bb⟩; have V2 := Lib.hid (V1.out.below bb); clear bb V1))
                    go_roundw
                    case rel => exact ⟨(j : Int) + 1 + 1, by omega, by omega, by go_num, HC1.out, V2⟩
                    case measure => simp [intOf] <;> omega
              · rw [atV_out (.inr (by omega))] at HT
                have t2 : ¬ ((j : Int) + 1 ≤ l.length) := by omega
                have t5 : (l.length : Int) ≤ j + 1 := by omega
                have P := nl_take_past (show l.length ≤ j by omega)
                obtain ⟨c0, hc0⟩ : ∃ c0, nl (l.take j) = c0 := ⟨_, rfl⟩
                rw [hc0] at P
                rw [P] at HA
                rw [hc0]
                have HC1 := Lib.hid (show Value.int .i64 (c0 : Nat) = .int .i64 (nl (l.take ((j : Int) + 1 + 1 - 1).toNat) : Nat) by rw [e3, P])
                clear hc0 P e3
                clear HAH HAT HNA HSM HRU
                go_wp2_with (first
                  | (refine wpList_load_roww 27 (.tmp 2) rfl w.heap.size rfl (by rfl) _ _ _ _ V0.out.c Try.underlying27 rfl HI.out ?_)
                  | (go_at_call 17; refine (HA.out _).mono ?_; rintro e wa ⟨rfl, ba⟩; have V1 := Lib.hid (V0.out.below ba); clear ba V0)
                  | (refine wpList_load_roww 27 (.tmp 2) rfl w.heap.size rfl (by rfl) _ _ _ _ V1.out.c Try.underlying27 rfl HI.out ?_)
                  | (go_at_call 20; refine (HT.out _).mono ?_; rintro e wb ⟨rfl, bb⟩; have V2 := Lib.hid (V1.out.below bb); clear bb V1))
                go_roundw
                case rel => exact ⟨(j : Int) + 1 + 1, by omega, by omega, by go_num, HC1.out, V2⟩
                case measure => simp [intOf] <;> omega
end Go.Proofs.Ytckdmhklnnmjpaa
