
import Derived.Test.YtoiomijchchlnaaF6
/- F7: May -/
namespace Go.Proofs.Ytoiomijchchlnaa
open Go.RowKit
set_option linter.unusedVariables false

/-- An op, told by its kind. -/
theorem mayO_1 (ks : List Key) (p : Opn) (h : p.k = 1) : mayO ks p = if lenK p.k p.n p.rs.length < 1 ∨ 0 < p.rs.length ∨ 0 < p.st.length then 3 else may6 ks p.pt := by unfold mayO; rw [if_pos h]; rfl
theorem mayO_2 (ks : List Key) (p : Opn) (h : p.k = 2) : mayO ks p = if lenK p.k p.n p.rs.length < 1 ∨ p.n ≠ 0 ∨ 0 < p.pt.length then 3 else if p.rs.all mayB then may5 ks p.st else 3 := by unfold mayO; rw [if_neg (by omega), if_pos h]; rfl
theorem mayO_3 (ks : List Key) (p : Opn) (h : p.k = 3) : mayO ks p = if lenK p.k p.n p.rs.length < 1 ∨ 0 < p.rs.length ∨ 0 < p.st.length ∨ 0 < p.pt.length then 3 else 0 := by unfold mayO; rw [if_neg (by omega), if_neg (by omega), if_pos h]; rfl
theorem mayO_n (ks : List Key) (p : Opn) (h1 : p.k ≠ 1) (h2 : p.k ≠ 2) (h3 : p.k ≠ 3) : mayO ks p = 3 := by unfold mayO; rw [if_neg h1, if_neg h2, if_neg h3]

set_option maxRecDepth 100000 in
set_option maxHeartbeats 4000000 in
theorem may_anyX (v u : Value) (ks : List Key) (ls : List Opn) (w : World) (hs : Sch w v ks) (hv : Orow w u ls) (hW : ∀ p ∈ ls, OpW p) :
    Calls Try.prog 12 #[v, u] w fun e w' => e = .returned (.int .i64 (mayX ks ls)) ∧ Below w.heap.size w w' := by
  have hl : ls.length ≤ 9223372036854775807 := hv.len
  have HTK := Lib.hid (fun W (hb : Below w.heap.size w W) => takes_any u ls W (hv.below hb))
  have HMK := Lib.hid (fun W (hb : Below w.heap.size w W) => makes_any u ls W (hv.below hb))
  obtain ⟨a1, cap1, rfl⟩ := hv.shape
  unfold mayX
  generalize sumK 3 ls = t3 at *
  generalize sumK 2 ls = t2 at *
  have HB0 := Lib.hid (Below.refl w.heap.size w)
  by_cases h3 : 536870912 < t3
  · rw [if_pos (.inl h3)]
    clear hv hW hs
    go_enter Try.func12, Try.ntmps12
    go_wp2
    go_step3
    go_wp2_with (go_at_call 10; (with_reducible refine (HTK.out _ HB0.out).mono ?_); rintro e w1 ⟨rfl, hb⟩; have HB1 := Lib.hid (below_add HB0.out hb HB0.out.size); clear hb)
    try rw [Exit.noGoto_ret]
    go_ret
    exact ⟨rfl, HB1.out⟩
  by_cases h2 : 536870912 < t2
  · rw [if_pos (.inr h2)]
    clear hv hW hs
    go_enter Try.func12, Try.ntmps12
    go_wp2
    go_step3
    go_wp2_with (first
      | (go_at_call 10; (with_reducible refine (HTK.out _ HB0.out).mono ?_); rintro e w1 ⟨rfl, hb⟩; have HB1 := Lib.hid (below_add HB0.out hb HB0.out.size); clear hb)
      | (go_at_call 11; (with_reducible refine (HMK.out _ HB1.out).mono ?_); rintro e w1 ⟨rfl, hb⟩; have HB2 := Lib.hid (below_add HB1.out hb HB1.out.size); clear hb))
    try rw [Exit.noGoto_ret]
    go_ret
    exact ⟨rfl, HB2.out⟩
  rw [if_neg (by omega)]
  by_cases h0 : 0 < ls.length
  rotate_left
  · obtain rfl : ls = [] := List.eq_nil_of_length_eq_zero (by omega)
    simp only [List.length_nil] at HTK HMK
    clear hv hW hs h0
    go_enter Try.func12, Try.ntmps12
    go_wp2
    go_step3
    go_wp2_with (first
      | (go_at_call 10; (with_reducible refine (HTK.out _ HB0.out).mono ?_); rintro e w1 ⟨rfl, hb⟩; have HB1 := Lib.hid (below_add HB0.out hb HB0.out.size); clear hb)
      | (go_at_call 11; (with_reducible refine (HMK.out _ HB1.out).mono ?_); rintro e w1 ⟨rfl, hb⟩; have HB2 := Lib.hid (below_add HB1.out hb HB1.out.size); clear hb))
    go_step3
    go_wp2
    refine wp_loop_rounds 1 ?_
    rw [rounds_succ]
    go_wp2
    try rw [Exit.noGoto_ret]
    go_ret
    exact ⟨rfl, HB2.out⟩
  obtain ⟨b1, o1, rfl, -, -, -, hbl, hat⟩ := hv.ats h0
  have HAT := Lib.hid hat
  have HS := Lib.hid hs
  clear hv hat hs
  go_enter Try.func12, Try.ntmps12
  go_wp2
  go_step3
  go_wp2_with (first
    | (go_at_call 10; (with_reducible refine (HTK.out _ HB0.out).mono ?_); rintro e w1 ⟨rfl, hb⟩; have HB1 := Lib.hid (below_add HB0.out hb HB0.out.size); clear hb)
    | (go_at_call 11; (with_reducible refine (HMK.out _ HB1.out).mono ?_); rintro e w1 ⟨rfl, hb⟩; have HB2 := Lib.hid (below_add HB1.out hb HB1.out.size); clear hb))
  go_step3
  go_wp2
  go_loopw [5, 19] (fun s5 s19 wr => ∃ (k : Nat) (t : Int), k ≤ ls.length ∧ s5 = .int .i64 t ∧ s19 = .int .i64 k ∧ Hid (Sofar ks ls k t ∧ Below w.heap.size w wr)) (fun _ s19 _ => ls.length - (intOf s19).toNat)
  case atStart => exact ⟨0, 0, Nat.zero_le _, rfl, rfl, Lib.hid ⟨sofar_0 ks ls, HB2.out⟩⟩
  case round =>
    clear HB2 HTK HMK HB0 HB1
    obtain ⟨k, t, hk, rfl, rfl, HR⟩ := hrel
    by_cases hlt : k < ls.length
    · have hoat := (HAT.out k hlt).below HR.out.2
      have hw := hW _ (List.getElem_mem hlt)
      have HLT := Lib.hid hlt
      have HT3 := Lib.hid (fun h => told_3 (ks := ks) hlt h)
      have HS4 := Lib.hid (fun h => sofar_4 HR.out.1 hlt h)
      have HSO := Lib.hid (fun h3 h4 => sofar_o HR.out.1 hlt h3 h4)
      have HBR := Lib.hid HR.out.2
      have m1 := mayO_1 ks ls[k]
      have m2 := mayO_2 ks ls[k]
      have m3 := mayO_3 ks ls[k]
      have m4 := mayO_n ks ls[k]
      generalize ls[k] = p at *
      obtain ⟨m, hm⟩ : ∃ m, mayO ks p = m := ⟨_, rfl⟩
      rw [hm] at m1 m2 m3 m4 HT3 HS4 HSO
      obtain ⟨rl, sl, pl, e1, e2, e3, ra, rc, sa, sc, pa, pc, c0, c1, c2, c3, c4, q1, q2, q3⟩ := hoat
      have hsw := HS.out.below HBR.out (Nat.le_refl _)
      rw [e1, e2] at m1
      rw [e1, e3] at m2
      rw [e1, e2, e3] at m3
      have HX := Lib.hid (kbelow_one wr (.cells (opcs p.k p.n ra rl rc sa sl sc pa pl pc) 41))
      have HR1 := Lib.hid (fun W (hb : Below wr.heap.size wr W) (h : p.k = 1) => by have := mayRetain_any v ks p.k p.n p.pt ra rl rc sa sl sc pa pl pc W (hsw.below hb (Nat.le_refl _)) (q3.below hb (Nat.le_refl _)) hw.p; rw [← m1 h] at this; exact this)
      have HR2 := Lib.hid (fun W (hb : Below wr.heap.size wr W) (h : p.k = 2) => by have := mayInsert_any v ks p.k p.n p.rs p.st ra rl rc sa sl sc pa pl pc W (hsw.below hb (Nat.le_refl _)) (q1.below hb) (q2.below hb (Nat.le_refl _)) hw.s e1; rw [← m2 h] at this; exact this)
      have HR3 := Lib.hid (fun W (h : p.k = 3) => by have := mayDelete_any p.k p.n ra rl rc sa sl sc pa pl pc W; rw [← m3 h] at this; exact this)
      have HB := Lib.hid (below_add HBR.out HX.out HBR.out.size)
      obtain ⟨pk, pn, prs, pst, ppt⟩ := p
      simp only at c0 c1 c2 c3 c4 HR1 HR2 HR3 HX HB m4
      clear q1 q2 q3 e1 e2 e3 hm hlt HR hw hsw m1 m2 m3
      have hkind : pk = 1 ∨ pk = 2 ∨ pk = 3 ∨ (pk ≠ 1 ∧ pk ≠ 2 ∧ pk ≠ 3) := by omega
      rcases hkind with rfl | rfl | rfl | ⟨n1, n2, n3⟩
      · have HRR := Lib.hid (fun W hb => HR1.out W hb rfl)
        clear HR1 HR2 HR3 m4
        by_cases hm3 : m = 3
        · subst hm3
          go_wp2_with (go_at_call 18; (with_reducible refine (HRR.out _ HX.out).mono ?_); rintro e w3 ⟨rfl, hb⟩; have HB3 := Lib.hid (below_add HB.out hb HB.out.size); clear hb)
          try rw [Exit.noGoto_ret]
          go_ret
          exact ⟨ret_int (HT3.out (by trivial)).symm, HB3.out⟩
        · have f3 : (m == 3) = false := by simpa using hm3
          by_cases hm4 : m = 4
          · subst hm4
            have HNX := Lib.hid (HS4.out rfl)
            clear hm3
            go_wp2_with (go_at_call 18; (with_reducible refine (HRR.out _ HX.out).mono ?_); rintro e w3 ⟨rfl, hb⟩; have HB3 := Lib.hid (below_add HB.out hb HB.out.size); clear hb)
            go_roundw
            case rel => exact ⟨k + 1, 4, HLT.out, rfl, by go_num, Lib.hid ⟨HNX.out, HB3.out⟩⟩
            case measure => have := HLT.out; simp [intOf]; omega
          · have f4 : (m == 4) = false := by simpa using hm4
            have HNX := Lib.hid (HSO.out hm3 hm4)
            clear hm3 hm4
            go_wp2_with (go_at_call 18; (with_reducible refine (HRR.out _ HX.out).mono ?_); rintro e w3 ⟨rfl, hb⟩; have HB3 := Lib.hid (below_add HB.out hb HB.out.size); clear hb)
            go_roundw
            case rel => exact ⟨k + 1, t, HLT.out, rfl, by go_num, Lib.hid ⟨HNX.out, HB3.out⟩⟩
            case measure => have := HLT.out; simp [intOf]; omega
      · have HRR := Lib.hid (fun W hb => HR2.out W hb rfl)
        clear HR1 HR2 HR3 m4
        by_cases hm3 : m = 3
        · subst hm3
          go_wp2_with (go_at_call 19; (with_reducible refine (HRR.out _ HX.out).mono ?_); rintro e w3 ⟨rfl, hb⟩; have HB3 := Lib.hid (below_add HB.out hb HB.out.size); clear hb)
          try rw [Exit.noGoto_ret]
          go_ret
          exact ⟨ret_int (HT3.out (by trivial)).symm, HB3.out⟩
        · have f3 : (m == 3) = false := by simpa using hm3
          by_cases hm4 : m = 4
          · subst hm4
            have HNX := Lib.hid (HS4.out rfl)
            clear hm3
            go_wp2_with (go_at_call 19; (with_reducible refine (HRR.out _ HX.out).mono ?_); rintro e w3 ⟨rfl, hb⟩; have HB3 := Lib.hid (below_add HB.out hb HB.out.size); clear hb)
            go_roundw
            case rel => exact ⟨k + 1, 4, HLT.out, rfl, by go_num, Lib.hid ⟨HNX.out, HB3.out⟩⟩
            case measure => have := HLT.out; simp [intOf]; omega
          · have f4 : (m == 4) = false := by simpa using hm4
            have HNX := Lib.hid (HSO.out hm3 hm4)
            clear hm3 hm4
            go_wp2_with (go_at_call 19; (with_reducible refine (HRR.out _ HX.out).mono ?_); rintro e w3 ⟨rfl, hb⟩; have HB3 := Lib.hid (below_add HB.out hb HB.out.size); clear hb)
            go_roundw
            case rel => exact ⟨k + 1, t, HLT.out, rfl, by go_num, Lib.hid ⟨HNX.out, HB3.out⟩⟩
            case measure => have := HLT.out; simp [intOf]; omega
      · have HRR := Lib.hid (fun W => HR3.out W rfl)
        clear HR1 HR2 HR3 m4
        by_cases hm3 : m = 3
        · subst hm3
          go_wp2_with (go_at_call 20; (with_reducible refine (HRR.out _).mono ?_); rintro e w3 ⟨rfl, hb⟩; have HB3 := Lib.hid (below_add HB.out hb HB.out.size); clear hb)
          try rw [Exit.noGoto_ret]
          go_ret
          exact ⟨ret_int (HT3.out (by trivial)).symm, HB3.out⟩
        · have f3 : (m == 3) = false := by simpa using hm3
          by_cases hm4 : m = 4
          · subst hm4
            have HNX := Lib.hid (HS4.out rfl)
            clear hm3
            go_wp2_with (go_at_call 20; (with_reducible refine (HRR.out _).mono ?_); rintro e w3 ⟨rfl, hb⟩; have HB3 := Lib.hid (below_add HB.out hb HB.out.size); clear hb)
            go_roundw
            case rel => exact ⟨k + 1, 4, HLT.out, rfl, by go_num, Lib.hid ⟨HNX.out, HB3.out⟩⟩
            case measure => have := HLT.out; simp [intOf]; omega
          · have f4 : (m == 4) = false := by simpa using hm4
            have HNX := Lib.hid (HSO.out hm3 hm4)
            clear hm3 hm4
            go_wp2_with (go_at_call 20; (with_reducible refine (HRR.out _).mono ?_); rintro e w3 ⟨rfl, hb⟩; have HB3 := Lib.hid (below_add HB.out hb HB.out.size); clear hb)
            go_roundw
            case rel => exact ⟨k + 1, t, HLT.out, rfl, by go_num, Lib.hid ⟨HNX.out, HB3.out⟩⟩
            case measure => have := HLT.out; simp [intOf]; omega
      · obtain rfl : m = 3 := m4 n1 n2 n3
        have e1 : (pk == 1) = false := by simpa using n1
        have e2 : (pk == 2) = false := by simpa using n2
        have e3 : (pk == 3) = false := by simpa using n3
        clear HR1 HR2 HR3 m4 n1 n2 n3
        go_wp2
        try rw [Exit.noGoto_ret]
        go_ret
        exact ⟨ret_int (HT3.out (by trivial)).symm, HB.out⟩
    · obtain rfl : k = ls.length := by omega
      have HE := Lib.hid (sofar_end HR.out.1)
      have HBR := Lib.hid HR.out.2
      go_wp2
      try rw [Exit.noGoto_ret]
      go_ret
      exact ⟨ret_int HE.out.symm, HBR.out⟩
end Go.Proofs.Ytoiomijchchlnaa
