
import Derived.Test.YtclbjfeneegicaaBD
/- BE: the reference's Same, Proper, Copy -/
namespace Go.Proofs.Ytclbjfeneegicaa
open Go.RowKit
set_option linter.unusedVariables false
set_option maxRecDepth 100000

theorem bk_step {xs ys : List Bz} {k : Nat} (h1 : k < xs.length) (h2 : k < ys.length) (h : (xs.take k).map Bz.b = (ys.take k).map Bz.b) (hn : xs[k].n = ys[k].n) (hs : xs[k].s = ys[k].s) : (xs.take (k + 1)).map Bz.b = (ys.take (k + 1)).map Bz.b := by
  rw [bk_take h1, bk_take h2, h]
  unfold Bz.b
  rw [hn, hs]
theorem bk_bad {xs ys : List Bz} {k : Nat} (h1 : k < xs.length) (h2 : k < ys.length) (h : ¬ (xs[k].n = ys[k].n ∧ xs[k].s = ys[k].s)) : ¬ xs.map Bz.b = ys.map Bz.b := fun e => by
  have e1 : (xs.map Bz.b)[k]? = (ys.map Bz.b)[k]? := congrArg (fun (l : List Bk) => l[k]?) e
  rw [List.getElem?_map, List.getElem?_map, List.getElem?_eq_getElem h1, List.getElem?_eq_getElem h2] at e1
  simp only [Option.map_some, Option.some.injEq] at e1
  unfold Bz.b at e1
  injection e1 with e2 e3
  exact h ⟨e2, e3⟩
theorem bk_end {xs ys : List Bz} (hl : xs.length = ys.length) (h : (xs.take xs.length).map Bz.b = (ys.take xs.length).map Bz.b) : xs.map Bz.b = ys.map Bz.b := by
  rw [List.take_of_length_le (Nat.le_refl _), hl, List.take_of_length_le (Nat.le_refl _)] at h; exact h
set_option maxHeartbeats 4000000 in
theorem rsame_any (v1 v2 : Value) (xs ys : List Bz) (w : World) (h1 : Zrow w v1 xs) (h2 : Zrow w v2 ys) :
    Calls Try.prog 18 #[v1, v2] w fun e w' => e = .returned (.bool (decide (xs.map Bz.b = ys.map Bz.b))) ∧ Below w.heap.size w w' := by
  have hl1 : xs.length ≤ 9223372036854775807 := h1.row.len
  obtain ⟨a1, c1, rfl⟩ := h1.shape
  obtain ⟨a2, c2, rfl⟩ := h2.shape
  by_cases hl : xs.length = ys.length
  · have H1 := Lib.hid h1
    have H2 := Lib.hid h2
    have HL := Lib.hid hl
    rw [← hl]
    clear h1 h2 hl
    go_enter Try.func18, Try.ntmps18
    go_wp2
    go_loopw [5] (fun i wr => ∃ k : Nat, k ≤ xs.length ∧ i = .int .i64 k ∧ Hid ((xs.take k).map Bz.b = (ys.take k).map Bz.b) ∧ Below w.heap.size w wr) (fun i _ => xs.length - (intOf i).toNat)
    case atStart => exact ⟨0, Nat.zero_le _, rfl, Lib.hid rfl, Below.refl _ _⟩
    case round =>
      obtain ⟨k, hk, rfl, HP, hb⟩ := hrel
      rename_i wr
      by_cases hlt : k < xs.length
      · have hlt2 : k < ys.length := by rw [← HL.out]; exact hlt
        obtain ⟨b1, o1, rfl, -, -, -, -, hat1⟩ := H1.out.opn (by omega)
        have H2L := Lib.hid (show Zrow w (.slice a2 ys.length c2) ys from by have := H2.out; rwa [← HL.out] at this ⊢)
        obtain ⟨b2, o2, rfl, -, -, -, -, hat2⟩ := H2L.out.opn (by omega)
        have C1 := Lib.hid (cell_below hb (hat1 k hlt).1)
        have C2 := Lib.hid (cell_below hb (hat1 k hlt).2.1)
        have C3 := Lib.hid (cell_below hb (hat2 k hlt2).1)
        have C4 := Lib.hid (cell_below hb (hat2 k hlt2).2.1)
        have HS1 := Lib.hid ((hat1 k hlt).2.2.below hb (Nat.le_refl _))
        have HS2 := Lib.hid ((hat2 k hlt2).2.2.below hb (Nat.le_refl _))
        have HSTEP := Lib.hid (fun hn hs => bk_step hlt hlt2 HP.out hn hs)
        have HBADI := Lib.hid (fun h => bk_bad hlt hlt2 h)
        have HB := Lib.hid hb
        have g7 : decide ((k : Int) < (xs.length : Int)) = true := by rw [decide_eq_true_iff]; omega
        obtain ⟨x, hx⟩ : ∃ x, xs[k] = x := ⟨_, rfl⟩
        obtain ⟨y, hy⟩ : ∃ y, ys[k] = y := ⟨_, rfl⟩
        rw [hx] at C1 C2 HS1 HSTEP HBADI
        rw [hy] at C3 C4 HS2 HSTEP HBADI
        clear hat1 hat2 hx hy hb H2L
        by_cases hn : x.n = y.n
        · have g0 : (x.n != y.n) = false := by simpa using hn
          by_cases hs : x.s = y.s
          · have HOK := Lib.hid (HSTEP.out hn hs)
            have HSS := Lib.hid hs
            clear HSTEP HBADI hs hn
            have KS := Lib.hid (fun w9 (hS : PuC wr w9) => (rsame_anyB _ _ x.s y.s w9 (HS1.out.below hS (Nat.le_refl _)) (HS2.out.below hS (Nat.le_refl _))).mono fun e w' (h : _ ∧ _) => (⟨by rw [h.1, decide_eq_true HSS.out], (show Below _ _ _ from hS).trans (h.2.mono (show Below _ _ _ from hS).size)⟩ : e = .returned (.bool true) ∧ PuC wr w'))
            go_upto_region 6 with fail
            refine region_classw (C := PuC wr) (by kernel_rfl) (by kernel_rfl) (PuC.start wr) ?_
            repeat (first
              | (first
                   | refine w_skip (by rfl) (by rfl) ?_
                   | refine w_skipn (by rfl) (by rfl) ?_
                 simp only [Act.put, List.setIfInBounds_toArray, List.set_cons_zero, List.set_cons_succ])
              | (first
                   | refine w_val (v := ?_) (by rfl) (fun w9 hS => ?_) ?_
                   | refine w_valg (v := ?_) (by rfl) (by rfl) (fun w9 hS => ?_) ?_
                 rotate_left
                 · have hB9 : Below wr.heap.size wr w9 := hS
                   have g1 := cell_below hB9 C1.out
                   have g2 := cell_below hB9 C2.out
                   have g3 := cell_below hB9 C3.out
                   have g4 := cell_below hB9 C4.out
                   go_simp
                   try with_reducible rfl
                 simp only [Act.put, List.setIfInBounds_toArray, List.set_cons_zero, List.set_cons_succ])
              | (first
                   | refine w_call (by rfl) (fun w9 hS => ?_) KS.out ?_
                   | refine w_callg (by rfl) (by rfl) (fun w9 hS => ?_) KS.out ?_
                 · have hB9 : Below wr.heap.size wr w9 := hS
                   have g1 := cell_below hB9 C1.out
                   have g2 := cell_below hB9 C2.out
                   have g3 := cell_below hB9 C3.out
                   have g4 := cell_below hB9 C4.out
                   go_simp
                 simp only [Act.put, List.setIfInBounds_toArray, List.set_cons_zero, List.set_cons_succ]))
            refine w_end ?_
            intro w5 hT
            have HT := Lib.hid (show Below wr.heap.size wr w5 from hT)
            clear hT
            go_wp2_with fail
            go_roundw
            case rel => exact ⟨k + 1, by omega, by go_num, Lib.hid HOK.out, below_add HB.out HT.out HB.out.size⟩
            case measure => simp [intOf]; omega
          · have HBAD := Lib.hid (HBADI.out (fun h => hs h.2))
            have HSS := Lib.hid hs
            clear HSTEP HBADI hs hn
            have KS := Lib.hid (fun w9 (hS : PuC wr w9) => (rsame_anyB _ _ x.s y.s w9 (HS1.out.below hS (Nat.le_refl _)) (HS2.out.below hS (Nat.le_refl _))).mono fun e w' (h : _ ∧ _) => (⟨by rw [h.1, decide_eq_false HSS.out], (show Below _ _ _ from hS).trans (h.2.mono (show Below _ _ _ from hS).size)⟩ : e = .returned (.bool false) ∧ PuC wr w'))
            go_upto_region 6 with fail
            refine region_classw (C := PuC wr) (by kernel_rfl) (by kernel_rfl) (PuC.start wr) ?_
            repeat (first
              | (first
                   | refine w_skip (by rfl) (by rfl) ?_
                   | refine w_skipn (by rfl) (by rfl) ?_
                 simp only [Act.put, List.setIfInBounds_toArray, List.set_cons_zero, List.set_cons_succ])
              | (first
                   | refine w_val (v := ?_) (by rfl) (fun w9 hS => ?_) ?_
                   | refine w_valg (v := ?_) (by rfl) (by rfl) (fun w9 hS => ?_) ?_
                 rotate_left
                 · have hB9 : Below wr.heap.size wr w9 := hS
                   have g1 := cell_below hB9 C1.out
                   have g2 := cell_below hB9 C2.out
                   have g3 := cell_below hB9 C3.out
                   have g4 := cell_below hB9 C4.out
                   go_simp
                   try with_reducible rfl
                 simp only [Act.put, List.setIfInBounds_toArray, List.set_cons_zero, List.set_cons_succ])
              | (first
                   | refine w_call (by rfl) (fun w9 hS => ?_) KS.out ?_
                   | refine w_callg (by rfl) (by rfl) (fun w9 hS => ?_) KS.out ?_
                 · have hB9 : Below wr.heap.size wr w9 := hS
                   have g1 := cell_below hB9 C1.out
                   have g2 := cell_below hB9 C2.out
                   have g3 := cell_below hB9 C3.out
                   have g4 := cell_below hB9 C4.out
                   go_simp
                 simp only [Act.put, List.setIfInBounds_toArray, List.set_cons_zero, List.set_cons_succ]))
            refine w_end ?_
            intro w5 hT
            have HT := Lib.hid (show Below wr.heap.size wr w5 from hT)
            clear hT
            go_wp2_with fail
            go_ret
            exact ⟨dec_no HBAD.out, below_add HB.out HT.out HB.out.size⟩
        · have g0 : (x.n != y.n) = true := by simpa using hn
          have HBAD := Lib.hid (HBADI.out (fun h => hn h.1))
          clear HSTEP HBADI hn
          go_upto_region 6 with fail
          refine region_classw (C := PuC wr) (by kernel_rfl) (by kernel_rfl) (PuC.start wr) ?_
          repeat (first
            | (first
                 | refine w_skip (by rfl) (by rfl) ?_
                 | refine w_skipn (by rfl) (by rfl) ?_
               simp only [Act.put, List.setIfInBounds_toArray, List.set_cons_zero, List.set_cons_succ])
            | (first
                 | refine w_val (v := ?_) (by rfl) (fun w9 hS => ?_) ?_
                 | refine w_valg (v := ?_) (by rfl) (by rfl) (fun w9 hS => ?_) ?_
               rotate_left
               · have hB9 : Below wr.heap.size wr w9 := hS
                 have g1 := cell_below hB9 C1.out
                 have g2 := cell_below hB9 C2.out
                 have g3 := cell_below hB9 C3.out
                 have g4 := cell_below hB9 C4.out
                 go_simp
                 try with_reducible rfl
               simp only [Act.put, List.setIfInBounds_toArray, List.set_cons_zero, List.set_cons_succ]))
          refine w_end ?_
          intro w5 hT
          have HT := Lib.hid (show Below wr.heap.size wr w5 from hT)
          clear hT
          go_wp2_with fail
          go_ret
          exact ⟨dec_no HBAD.out, below_add HB.out HT.out HB.out.size⟩
      · obtain rfl : k = xs.length := by omega
        have HE := Lib.hid (bk_end HL.out HP.out)
        have g7 : decide ((xs.length : Int) < (xs.length : Int)) = false := by rw [decide_eq_false_iff_not]; omega
        clear HP
        go_wp2
        go_ret
        exact ⟨dec_yes HE.out, hb⟩
  · have HN := Lib.hid (show ¬ xs.map Bz.b = ys.map Bz.b from fun h => hl (by have := congrArg List.length h; simpa using this))
    have e1 : ((xs.length : Int) != (ys.length : Int)) = true := by simp; omega
    clear h1 h2
    go_enter Try.func18, Try.ntmps18
    go_wp2
    go_ret
    exact ⟨dec_no HN.out, Below.refl _ _⟩
theorem prp_same {l l' : List Bk} (h : Rep l (ex l')) : decide (l = l') = prpB l' := by
  rw [Bool.eq_iff_iff, decide_eq_true_iff, prpB_iff]
  exact ⟨fun e => by rw [← e]; exact h.prp, fun hp => h.uniq ⟨hp, rfl⟩⟩
theorem rproper_any (v : Value) (zs : List Bz) (w : World) (hv : Zrow w v zs) (hl : zs.length ≤ 1000) (hn : ∀ z ∈ zs, z.n ≤ 1125899906842624) (hs : ∀ z ∈ zs, z.s.length ≤ 1000) :
    Calls Try.prog 19 #[v] w fun e w' => e = .returned (.bool (prpB (zs.map Bz.b))) ∧ Below w.heap.size w w' := by
  have HJ := Lib.hid (rjoin_any v zs w hv hl hn hs)
  have HV := Lib.hid hv
  clear hv hl hn hs
  go_enter Try.func19, Try.ntmps19
  go_wp2_with (first
    | (go_at_call 16; refine HJ.out.mono ?_; rintro e w1 ⟨a, c, zs1, rfl, hk⟩; have HK := Lib.hid hk; have HS := Lib.hid (rsame_any _ _ zs1 zs w1 hk.own.zrow (HV.out.below hk.bel)); clear hk)
    | (go_at_call 18; refine HS.out.mono ?_; rintro e w2 ⟨rfl, hb⟩))
  go_ret
  exact ⟨by rw [← prp_same HK.out.rep]; rfl, below_add HK.out.bel hb HK.out.bel.size⟩
end Go.Proofs.Ytclbjfeneegicaa
