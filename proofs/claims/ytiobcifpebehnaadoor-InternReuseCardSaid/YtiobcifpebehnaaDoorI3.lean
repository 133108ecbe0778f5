
import Derived.Test.YtiobcifpebehnaaDoorI2
/- I3: textOf's walk -/
namespace Go.Proofs.YtiobcifpebehnaaDoor
open Go.RowKit
set_option linter.unusedVariables false

/-- What a set's texts are within, wherever it comes to its own text. -/
def Small (xs : List Att) : Prop := xs.length ≤ 64 ∧ ∀ a ∈ xs, AttW a ∧ a.s.size ≤ 1000
theorem Small.len {xs : List Att} (h : Small xs) (k : Nat) : (txt (xs.take k)).length ≤ 71000 := by
  have h1 := txt_len (m := 1000) (x := xs.take k) (fun a ha => h.2 a (List.mem_of_mem_take ha))
  have h2 : (xs.take k).length ≤ 64 := by rw [List.length_take]; have := h.1; omega
  omega
theorem byteCells_ints (l : List UInt8) : Lib.byteCells l = (l.map fun b => (b.toNat : Int)).map (Value.int .u8) := by simp [Lib.byteCells]
theorem str_back (l : List UInt8) : strOfNums (l.map fun b => (b.toNat : Int)) = ⟨l.toArray⟩ := by
  unfold strOfNums
  rw [List.map_map]
  have : ∀ m : List UInt8, List.map ((fun n : Int => UInt8.ofNat n.toNat) ∘ fun b : UInt8 => (b.toNat : Int)) m = m := fun m => by
    induction m with
    | nil => rfl
    | cons b r ih => rw [List.map_cons, ih]; simp
  rw [this]
theorem wi64 {x : Int} (h : (Lit.int .i64 x).wf = true) : -9223372036854775808 ≤ x ∧ x ≤ 9223372036854775807 := by have := Go.bounds_i64 h; omega
theorem wu8 {x : Int} (h : (Lit.int .u8 x).wf = true) : 0 ≤ x ∧ x < 256 := by have := Go.bounds_u8 h; omega
theorem wu64 {x : Int} (h : (Lit.int .u64 x).wf = true) : 0 ≤ x ∧ x < 18446744073709551616 := by have := Go.bounds_u64 h; omega
theorem txt_conv {w W : World} {xs : List Att} {v : Value} (h : TxRel w xs xs.length v W) : (convert 71 9 v).run Tryd.prog W = .ok (.string ⟨(txt xs).toArray⟩) W := by
  have h1 := h.1
  rw [List.take_of_length_le (Nat.le_refl _), byteCells_ints] at h1
  rw [conv_str 71 9 5 Tryd.underlying71 Tryd.underlying5 Tryd.underlying9 v _ W (Ints.of_owns h1).1, str_back]
theorem uint_any (B n : Nat) (u : Int) (h0 : 0 ≤ u) (h1 : u < 18446744073709551616) (sv : Value) (xs : List Value) (w : World) (hown : w.ownsRow B 5 1 sv n xs) (hBw : B ≤ w.heap.size) (hlim : n + 20 ≤ 140737488355328) (ht : Tab B w) :
    Calls Tryd.prog 43 #[sv, .int .u64 u, .int .i64 10] w fun e w' => ∃ v', e = .returned v' ∧ w'.ownsRow B 5 1 v' (n + (Lib.decDigits u.toNat).length) (xs ++ Lib.byteCells (Lib.decDigits u.toNat)) ∧ Below B w w' ∧ Lib.OthersKept 5 none w w' := by
  obtain ⟨m, rfl⟩ : ∃ m : Nat, u = m := ⟨u.toNat, by omega⟩
  rw [Int.toNat_natCast]
  go_enter Tryd.func43, Tryd.ntmps43
  go_wp2_with (go_at_call 52; refine (Tryd.internal_strconv_AppendUint_10 B n m (by omega) sv xs w hown hBw hlim ht.here).mono ?_; rintro e w2 ⟨v2, rfl, hown2, hnx2, hok2⟩)
  go_ret
  exact ⟨v2, rfl, hown2, hnx2, hok2⟩
theorem TxS.done {w wr W : World} {xs : List Att} {k ba bv : Nat} {v : Value} (hk : k < xs.length)
    (h : TxS w.heap.size w W ba bv xs[k] v (txt (xs.take k) ++ Lib.itoa xs[k].key ++ [32] ++ Lib.decDigits xs[k].k.toNat ++ [32] ++ Lib.itoa xs[k].n ++ [32] ++ Lib.decDigits xs[k].f.toNat ++ [32] ++ Lib.itoa (xs[k].s.size : Int) ++ [32] ++ xs[k].s.data.toList)) : TxRel w xs (k + 1) v W := by
  have e : txt (xs.take (k + 1)) = txt (xs.take k) ++ Lib.itoa xs[k].key ++ [32] ++ Lib.decDigits xs[k].k.toNat ++ [32] ++ Lib.itoa xs[k].n ++ [32] ++ Lib.decDigits xs[k].f.toNat ++ [32] ++ Lib.itoa (xs[k].s.size : Int) ++ [32] ++ xs[k].s.data.toList := by
    rw [txt_snoc hk, attT_snoc]; simp
  rw [← e] at h
  exact ⟨h.own, h.bel⟩

set_option maxRecDepth 100000 in
set_option maxHeartbeats 2000000 in
theorem text_any (v : Value) (xs : List Att) (w : World) (hv : Arow w v xs) (hS : Small xs) (ht : Tab w.heap.size w) :
    Calls Tryd.prog 29 #[v] w fun e w' => e = .returned (.string ⟨(txt xs).toArray⟩) ∧ Below w.heap.size w w' := by
  obtain ⟨i0, hi, hz0, hz1, hz2⟩ := info_u8
  obtain ⟨a1, cap1, rfl⟩ := hv.shape
  have hlen := hv.len
  by_cases h0 : 0 < xs.length
  · obtain ⟨b1, o1, rfl, -, -, -, hbl, hat⟩ := Arow.opn hv h0
    have HAT := Lib.hid hat
    have HS := Lib.hid hS
    have HT := Lib.hid ht
    clear hv hat hS ht
    go_enter Tryd.func29, Tryd.ntmps29
    go_wp2
    go_loopw [3, 9] (fun s3 s9 wr => ∃ k : Nat, k ≤ xs.length ∧ s9 = .int .i64 k ∧ TxRel w xs k s3 wr) (fun _ s9 _ => xs.length - (intOf s9).toNat)
    case atStart => exact ⟨0, Nat.zero_le _, rfl, txt_init w xs⟩
    case round =>
      obtain ⟨k, hk, rfl, hR⟩ := hrel
      by_cases hlt : k < xs.length
      · obtain ⟨c0, c1, c2, c3, c4⟩ := (HAT.out k hlt).below hR.2 hbl
        have hl := HS.out.len k
        have hw := HS.out.2 xs[k] (List.getElem_mem hlt)
        have hD := fun W ba bv v' => TxS.done (w := w) (wr := wr) (W := W) (ba := ba) (bv := bv) (v := v') hlt
        have S0 := Lib.hid (hR.start HT.out xs[k])
        generalize hxk : xs[k] = x at *
        have HD := Lib.hid hD
        have hsz := hR.2.size
        generalize htk : txt (xs.take k) = T at *
        clear hR hD hxk
        have W0 := Lib.hid hw
        obtain ⟨x1, x2, x3, x4, x5⟩ := x
        simp only at c0 c1 c2 c3 c4
        clear hw htk
        have W1 : Hid (-9223372036854775808 ≤ x1 ∧ x1 ≤ 9223372036854775807) := wi64 W0.out.1.key
        have W2 : Hid (0 ≤ x2 ∧ x2 < 256) := wu8 W0.out.1.k
        have W3 : Hid (-9223372036854775808 ≤ x3 ∧ x3 ≤ 9223372036854775807) := wi64 W0.out.1.n
        have W4 : Hid (0 ≤ x4 ∧ x4 < 18446744073709551616) := wu64 W0.out.1.f
        have W5 : Hid (x5.size ≤ 1000) := W0.out.2
        have L1 := Lib.hid (Lib.itoa_length_le x1 W1.out.1 W1.out.2)
        have L3 := Lib.hid (Lib.itoa_length_le x3 W3.out.1 W3.out.2)
        obtain ⟨c5, c6, c7, c8, c9⟩ := S0.out.cells
        have L2 := Lib.hid (Lib.nDigits_le20 x2.toNat (by have := W2.out; omega))
        have L4 := Lib.hid (Lib.nDigits_le20 x4.toNat (by have := W4.out; omega))
        have L5 := Lib.hid (Lib.itoa_length_le (x5.size : Int) (by omega) (by have := W5.out; omega))
        have hl1 := L1.out
        have hl2 := L2.out
        have hl3 := L3.out
        have hl4 := L4.out
        have hl5 := L5.out
        rw [← Lib.decDigits_length] at hl2 hl4
        have hu2 : IntKind.u64.wrap x2 = x2 := by have := W2.out; exact IntWalk.u64_in _ (by omega)
        go_wp2_with (go_at_call 42; (refine (Tryd.strconv_AppendInt_10 w.heap.size _ x1 W1.out.1 W1.out.2 _ _ _ S0.out.own S0.out.hB (by omega) S0.out.tab).mono ?_); rintro e w1 ⟨v1, rfl, ho, hb, hk2⟩; refine Hid.out ?_)
        refine Lib.hid ?_
        have S1 := S0.out.num ho hb hk2
        clear ho hb hk2
        obtain ⟨T1, hT1⟩ : ∃ T1, T1 = T ++ Lib.itoa x1 := ⟨_, rfl⟩
        have hn1 : T1.length ≤ 71000 + 21 := by rw [hT1]; rw [List.length_append]; omega
        rw [← hT1] at S1
        have HT1 := Lib.hid hT1
        clear hT1
        have S1 := Lib.hid S1
        go_wp2_with (at_builtin; refine wpList_append_ints rfl (.tmp 18) (.tmp 19) 71 rfl w.heap.size 5 i0 (.int .u8 0) 1 Tryd.underlying71 hi hz0 hz1 hz2 rfl _ _ _ rfl (S1.out.alloc _).own _ .u8 [32] rfl (ints_single .u8 w1 5 32) (by unfold maxLen; simp; omega) (by simp; omega) (S1.out.alloc _).hB ?_; intro v2 w2 ho hg; refine Hid.out ?_)
        refine Lib.hid ?_
        have S2 := (S1.out.alloc _).grown (m := [32]) ho hg
        clear ho hg
        obtain ⟨T2, hT2⟩ : ∃ T2, T2 = T1 ++ [32] := ⟨_, rfl⟩
        have hn2 : T2.length ≤ 71000 + 22 := by rw [hT2]; rw [List.length_append, List.length_singleton]; omega
        rw [← hT2] at S2
        have HT2 := Lib.hid hT2
        clear hT2
        have S2 := Lib.hid S2
        obtain ⟨c5, c6, c7, c8, c9⟩ := S2.out.cells
        go_wp2_with (go_at_call 43; (refine (uint_any w.heap.size _ x2 W2.out.1 (by have := W2.out; omega) _ _ _ S2.out.own S2.out.hB (by omega) S2.out.tab).mono ?_); rintro e w3 ⟨v3, rfl, ho, hb, hk2⟩; refine Hid.out ?_)
        refine Lib.hid ?_
        have S3 := S2.out.num ho hb hk2
        clear ho hb hk2
        obtain ⟨T3, hT3⟩ : ∃ T3, T3 = T2 ++ Lib.decDigits x2.toNat := ⟨_, rfl⟩
        have hn3 : T3.length ≤ 71000 + 42 := by rw [hT3]; rw [List.length_append]; omega
        rw [← hT3] at S3
        have HT3 := Lib.hid hT3
        clear hT3
        have S3 := Lib.hid S3
        go_wp2_with (at_builtin; refine wpList_append_ints rfl (.tmp 25) (.tmp 26) 71 rfl w.heap.size 5 i0 (.int .u8 0) 1 Tryd.underlying71 hi hz0 hz1 hz2 rfl _ _ _ rfl (S3.out.alloc _).own _ .u8 [32] rfl (ints_single .u8 w3 5 32) (by unfold maxLen; simp; omega) (by simp; omega) (S3.out.alloc _).hB ?_; intro v4 w4 ho hg; refine Hid.out ?_)
        refine Lib.hid ?_
        have S4 := (S3.out.alloc _).grown (m := [32]) ho hg
        clear ho hg
        obtain ⟨T4, hT4⟩ : ∃ T4, T4 = T3 ++ [32] := ⟨_, rfl⟩
        have hn4 : T4.length ≤ 71000 + 43 := by rw [hT4]; rw [List.length_append, List.length_singleton]; omega
        rw [← hT4] at S4
        have HT4 := Lib.hid hT4
        clear hT4
        have S4 := Lib.hid S4
        obtain ⟨c5, c6, c7, c8, c9⟩ := S4.out.cells
        go_wp2_with (go_at_call 42; (refine (Tryd.strconv_AppendInt_10 w.heap.size _ x3 W3.out.1 W3.out.2 _ _ _ S4.out.own S4.out.hB (by omega) S4.out.tab).mono ?_); rintro e w5 ⟨v5, rfl, ho, hb, hk2⟩; refine Hid.out ?_)
        refine Lib.hid ?_
        have S5 := S4.out.num ho hb hk2
        clear ho hb hk2
        obtain ⟨T5, hT5⟩ : ∃ T5, T5 = T4 ++ Lib.itoa x3 := ⟨_, rfl⟩
        have hn5 : T5.length ≤ 71000 + 64 := by rw [hT5]; rw [List.length_append]; omega
        rw [← hT5] at S5
        have HT5 := Lib.hid hT5
        clear hT5
        have S5 := Lib.hid S5
        go_wp2_with (at_builtin; refine wpList_append_ints rfl (.tmp 31) (.tmp 32) 71 rfl w.heap.size 5 i0 (.int .u8 0) 1 Tryd.underlying71 hi hz0 hz1 hz2 rfl _ _ _ rfl (S5.out.alloc _).own _ .u8 [32] rfl (ints_single .u8 w5 5 32) (by unfold maxLen; simp; omega) (by simp; omega) (S5.out.alloc _).hB ?_; intro v6 w6 ho hg; refine Hid.out ?_)
        refine Lib.hid ?_
        have S6 := (S5.out.alloc _).grown (m := [32]) ho hg
        clear ho hg
        obtain ⟨T6, hT6⟩ : ∃ T6, T6 = T5 ++ [32] := ⟨_, rfl⟩
        have hn6 : T6.length ≤ 71000 + 65 := by rw [hT6]; rw [List.length_append, List.length_singleton]; omega
        rw [← hT6] at S6
        have HT6 := Lib.hid hT6
        clear hT6
        have S6 := Lib.hid S6
        obtain ⟨c5, c6, c7, c8, c9⟩ := S6.out.cells
        go_wp2_with (go_at_call 43; (refine (uint_any w.heap.size _ x4 W4.out.1 W4.out.2 _ _ _ S6.out.own S6.out.hB (by omega) S6.out.tab).mono ?_); rintro e w7 ⟨v7, rfl, ho, hb, hk2⟩; refine Hid.out ?_)
        refine Lib.hid ?_
        have S7 := S6.out.num ho hb hk2
        clear ho hb hk2
        obtain ⟨T7, hT7⟩ : ∃ T7, T7 = T6 ++ Lib.decDigits x4.toNat := ⟨_, rfl⟩
        have hn7 : T7.length ≤ 71000 + 85 := by rw [hT7]; rw [List.length_append]; omega
        rw [← hT7] at S7
        have HT7 := Lib.hid hT7
        clear hT7
        have S7 := Lib.hid S7
        go_wp2_with (at_builtin; refine wpList_append_ints rfl (.tmp 37) (.tmp 38) 71 rfl w.heap.size 5 i0 (.int .u8 0) 1 Tryd.underlying71 hi hz0 hz1 hz2 rfl _ _ _ rfl (S7.out.alloc _).own _ .u8 [32] rfl (ints_single .u8 w7 5 32) (by unfold maxLen; simp; omega) (by simp; omega) (S7.out.alloc _).hB ?_; intro v8 w8 ho hg; refine Hid.out ?_)
        refine Lib.hid ?_
        have S8 := (S7.out.alloc _).grown (m := [32]) ho hg
        clear ho hg
        obtain ⟨T8, hT8⟩ : ∃ T8, T8 = T7 ++ [32] := ⟨_, rfl⟩
        have hn8 : T8.length ≤ 71000 + 86 := by rw [hT8]; rw [List.length_append, List.length_singleton]; omega
        rw [← hT8] at S8
        have HT8 := Lib.hid hT8
        clear hT8
        have S8 := Lib.hid S8
        obtain ⟨c5, c6, c7, c8, c9⟩ := S8.out.cells
        go_wp2_with (go_at_call 42; (refine (Tryd.strconv_AppendInt_10 w.heap.size _ (x5.size : Int) (by omega) (by have := W5.out; omega) _ _ _ S8.out.own S8.out.hB (by omega) S8.out.tab).mono ?_); rintro e w9 ⟨v9, rfl, ho, hb, hk2⟩; refine Hid.out ?_)
        refine Lib.hid ?_
        have S9 := S8.out.num ho hb hk2
        clear ho hb hk2
        obtain ⟨T9, hT9⟩ : ∃ T9, T9 = T8 ++ Lib.itoa (x5.size : Int) := ⟨_, rfl⟩
        have hn9 : T9.length ≤ 71000 + 107 := by rw [hT9]; rw [List.length_append]; omega
        rw [← hT9] at S9
        have HT9 := Lib.hid hT9
        clear hT9
        have S9 := Lib.hid S9
        go_wp2_with (at_builtin; refine wpList_append_ints rfl (.tmp 44) (.tmp 45) 71 rfl w.heap.size 5 i0 (.int .u8 0) 1 Tryd.underlying71 hi hz0 hz1 hz2 rfl _ _ _ rfl (S9.out.alloc _).own _ .u8 [32] rfl (ints_single .u8 w9 5 32) (by unfold maxLen; simp; omega) (by simp; omega) (S9.out.alloc _).hB ?_; intro v10 w10 ho hg; refine Hid.out ?_)
        refine Lib.hid ?_
        have S10 := (S9.out.alloc _).grown (m := [32]) ho hg
        clear ho hg
        obtain ⟨T10, hT10⟩ : ∃ T10, T10 = T9 ++ [32] := ⟨_, rfl⟩
        have hn10 : T10.length ≤ 71000 + 108 := by rw [hT10]; rw [List.length_append, List.length_singleton]; omega
        rw [← hT10] at S10
        have HT10 := Lib.hid hT10
        clear hT10
        have S10 := Lib.hid S10
        obtain ⟨c5, c6, c7, c8, c9⟩ := S10.out.cells
        go_wp2_with (at_builtin; (refine Lib.wpList_append_own_string _ rfl (.tmp 47) (.tmp 49) 71 9 rfl w.heap.size 5 i0 Tryd.underlying71 Tryd.underlying9 hi hz0 hz1 hz2 _ _ _ rfl S10.out.own x5 rfl (by have := W5.out; unfold maxLen; omega) (by have := W5.out; omega) S10.out.hB ?_); intro v11 w11 ho hg _; refine Hid.out ?_)
        refine Lib.hid ?_
        have HR0 := S10.out.grown (m := x5.data.toList) ho hg
        rw [HT10.out, HT9.out, HT8.out, HT7.out, HT6.out, HT5.out, HT4.out, HT3.out, HT2.out, HT1.out] at HR0
        have HR := Lib.hid (HD.out _ _ _ _ HR0)
        clear ho hg HR0
        go_wp2
        go_roundw
        case rel => exact ⟨k + 1, by omega, by go_num, HR.out⟩
        case measure => simp [intOf]; omega
      · obtain rfl : k = xs.length := by omega
        have hcv := txt_conv hR
        have HR := Lib.hid hR
        clear hR
        go_wp2
        go_ret
        exact ⟨rfl, HR.out.2⟩
  · obtain rfl : xs = [] := List.eq_nil_of_length_eq_zero (by omega)
    have hcv := txt_conv (txt_init w [])
    clear hv hlen h0
    go_enter Tryd.func29, Tryd.ntmps29
    go_wp2
    refine wp_loop_rounds 1 ?_
    rw [rounds_succ]
    go_wp2
    go_ret
    exact ⟨rfl, Below.refl _ _⟩
end Go.Proofs.YtiobcifpebehnaaDoor
