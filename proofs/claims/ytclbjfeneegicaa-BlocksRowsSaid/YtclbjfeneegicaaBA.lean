
import Derived.Test.YtclbjfeneegicaaB9
/- BA: Proper, Of -/
namespace Go.Proofs.Ytclbjfeneegicaa
open Go.RowKit
set_option linter.unusedVariables false
set_option maxRecDepth 100000

/-- Proper, as a flag. -/
def prpB : List Bk → Bool
  | [] => true
  | [x] => decide (0 < x.n)
  | x :: y :: r => decide (0 < x.n) && !decide (x.s = y.s) && prpB (y :: r)
theorem prpB_iff : ∀ l : List Bk, prpB l = true ↔ Prp l
  | [] => by simp [prpB, Prp]
  | [x] => by simp [prpB, Prp]
  | x :: y :: r => by
    have ih := prpB_iff (y :: r)
    show (decide (0 < x.n) && !decide (x.s = y.s) && prpB (y :: r)) = true ↔ 0 < x.n ∧ (∀ z, (y :: r).head? = some z → x.s ≠ z.s) ∧ Prp (y :: r)
    rw [Bool.and_eq_true, Bool.and_eq_true, ih]
    simp [and_assoc]
theorem prpB_yes {l : List Bk} (h : Prp l) : Ending.returned (.bool true) = .returned (.bool (prpB l)) := by rw [(prpB_iff l).2 h]
theorem prpB_no {l : List Bk} (h : ¬ Prp l) : Ending.returned (.bool false) = .returned (.bool (prpB l)) := by
  have : prpB l = false := by
    rw [Bool.eq_false_iff]
    exact fun hh => h ((prpB_iff l).1 hh)
  rw [this]
theorem bk_take {zs : List Bz} {k : Nat} (h : k < zs.length) : (zs.take (k + 1)).map Bz.b = (zs.take k).map Bz.b ++ [zs[k].b] := by
  rw [List.take_succ_eq_append_getElem h, List.map_append]; rfl
theorem bk_last {zs : List Bz} {k : Nat} (h : k < zs.length) : ((zs.take (k + 1)).map Bz.b).getLast? = some zs[k].b := by
  rw [bk_take h]; simp
theorem prp_bad {zs : List Bz} {k : Nat} (h : k < zs.length) (hn : ¬ Prp ((zs.take (k + 1)).map Bz.b)) : ¬ Prp (zs.map Bz.b) := fun hp => hn (by
  have e : zs.map Bz.b = (zs.take (k + 1)).map Bz.b ++ (zs.drop (k + 1)).map Bz.b := by rw [← List.map_append, List.take_append_drop]
  rw [e] at hp
  exact prp_front _ _ hp)
theorem prp_first {zs : List Bz} (h : 0 < zs.length) : Prp ((zs.take (0 + 1)).map Bz.b) ↔ 0 < zs[0].n := by
  rw [bk_take h, prp_snoc]
  simp [Prp, Bz.b]
theorem prp_next {zs : List Bz} {j : Nat} (h : j + 1 < zs.length) (hp : Prp ((zs.take (j + 1)).map Bz.b)) : Prp ((zs.take (j + 1 + 1)).map Bz.b) ↔ 0 < zs[j + 1].n ∧ zs[j].s ≠ zs[j + 1].s := by
  rw [bk_take h, prp_snoc, bk_last (show j < zs.length by omega)]
  constructor
  · rintro ⟨-, h1, h2⟩; exact ⟨h1, h2 _ rfl⟩
  · rintro ⟨h1, h2⟩; exact ⟨hp, h1, fun y hy => by cases hy; exact h2⟩
set_option maxHeartbeats 4000000 in
theorem proper_any (v : Value) (zs : List Bz) (w : World) (hv : Zrow w v zs) :
    Calls Try.prog 9 #[v] w fun e w' => e = .returned (.bool (prpB (zs.map Bz.b))) ∧ Below w.heap.size w w' := by
  have hlen : zs.length ≤ 9223372036854775807 := hv.row.len
  obtain ⟨va, vc, rfl⟩ := hv.shape
  have HV := Lib.hid hv
  have hlt0 : zs.length = 0 ∨ 0 < zs.length := by omega
  clear hv
  go_enter Try.func9, Try.ntmps9
  go_wp2
  go_loopw [7] (fun s7 wr => ∃ k : Nat, k ≤ zs.length ∧ s7 = .int .i64 k ∧ Hid (Prp ((zs.take k).map Bz.b)) ∧ Below w.heap.size w wr) (fun s7 _ => zs.length - (intOf s7).toNat)
  case atStart => exact ⟨0, Nat.zero_le _, rfl, Lib.hid trivial, Below.refl _ _⟩
  case round =>
    obtain ⟨k, hk, rfl, HP, hb⟩ := hrel
    rename_i wr
    have HZ := Lib.hid (HV.out.below hb)
    by_cases hlt : k < zs.length
    · obtain ⟨b, off, rfl, -, -, -, hbl, hat⟩ := HZ.out.opn (by omega)
      obtain ⟨c0, c1, hs⟩ := hat k hlt
      have HBX := Lib.hid (show ZBox wr.heap.size zs[k].n zs[k].a zs[k].s.length zs[k].c (wr.alloc (.cells (bcs zs[k].n zs[k].a zs[k].s.length zs[k].c) 34)) from zbox_new _ _ _ _ _)
      have HB1 := Lib.hid ((Below.refl wr.heap.size wr).alloc (Nat.le_refl _) (.cells (bcs zs[k].n zs[k].a zs[k].s.length zs[k].c) 34))
      have HS1 := Lib.hid (hs.below HB1.out (Nat.le_refl _))
      have HB := Lib.hid (below_add hb HB1.out hb.size)
      have HBADK := Lib.hid (fun h => prp_bad hlt h)
      have HIF := Lib.hid (prp_first (zs := zs))
      have HNX := Lib.hid (fun j h => prp_next (zs := zs) (j := j) h)
      have HPV := Lib.hid (fun (j : Nat) (hj : j < zs.length) => hat j hj)
      obtain ⟨z, hz⟩ : ∃ z, zs[k] = z := ⟨_, rfl⟩
      rw [hz] at c0 c1 hs HBX HB1 HS1 HB
      have HZK := Lib.hid hz
      clear hat hz
      cases k with
      | zero =>
        simp only [Nat.zero_mul, Nat.add_zero] at c0 c1
        have HOKI := Lib.hid (show Prp ((zs.take (0 + 1)).map Bz.b) ↔ 0 < z.n from (HIF.out hlt).trans (by rw [HZK.out]; exact Iff.rfl))
        by_cases hn : z.n ≤ 0
        · have g0 : decide (z.n ≤ 0) = true := decide_eq_true hn
          have HBAD := Lib.hid (HBADK.out (fun h => by have := HOKI.out.1 h; omega))
          clear HBADK HIF HNX HPV hs
          go_upto_region 4 with fail
          generalize hW : wr.alloc (.cells (bcs z.n z.a z.s.length z.c) 34) = W at *
          have CX := HBX
          clear hW
          refine region_classw (C := PuC W) (by kernel_rfl) (by kernel_rfl) (PuC.start W) ?_
          repeat (first
            | (first
                 | refine w_skip (by rfl) (by rfl) ?_
                 | refine w_skipn (by rfl) (by rfl) ?_
               simp only [Act.put, List.setIfInBounds_toArray, List.set_cons_zero, List.set_cons_succ])
            | (first
                 | refine w_val (v := ?_) (by rfl) (fun w9 hS => ?_) ?_
                 | refine w_valg (v := ?_) (by rfl) (by rfl) (fun w9 hS => ?_) ?_
               rotate_left
               · have hB9 : Below W.heap.size W w9 := hS
                 obtain ⟨g1, g2⟩ := CX.out.below hB9
                 go_simp
                 try with_reducible rfl
               simp only [Act.put, List.setIfInBounds_toArray, List.set_cons_zero, List.set_cons_succ]))
          refine w_end ?_
          intro w5 hT
          have HT := Lib.hid (show Below W.heap.size W w5 from hT)
          clear hT
          go_wp2_with fail
          go_ret
          exact ⟨prpB_no HBAD.out, below_add HB.out HT.out HB.out.size⟩
        · have g0 : decide (z.n ≤ 0) = false := decide_eq_false hn
          have HOK := Lib.hid (HOKI.out.2 (by omega))
          clear HBADK HIF HNX HPV hs
          go_upto_region 4 with fail
          generalize hW : wr.alloc (.cells (bcs z.n z.a z.s.length z.c) 34) = W at *
          have CX := HBX
          clear hW
          refine region_classw (C := PuC W) (by kernel_rfl) (by kernel_rfl) (PuC.start W) ?_
          repeat (first
            | (first
                 | refine w_skip (by rfl) (by rfl) ?_
                 | refine w_skipn (by rfl) (by rfl) ?_
               simp only [Act.put, List.setIfInBounds_toArray, List.set_cons_zero, List.set_cons_succ])
            | (first
                 | refine w_val (v := ?_) (by rfl) (fun w9 hS => ?_) ?_
                 | refine w_valg (v := ?_) (by rfl) (by rfl) (fun w9 hS => ?_) ?_
               rotate_left
               · have hB9 : Below W.heap.size W w9 := hS
                 obtain ⟨g1, g2⟩ := CX.out.below hB9
                 go_simp
                 try with_reducible rfl
               simp only [Act.put, List.setIfInBounds_toArray, List.set_cons_zero, List.set_cons_succ]))
          refine w_end ?_
          intro w5 hT
          have HT := Lib.hid (show Below W.heap.size W w5 from hT)
          clear hT
          go_wp2_with fail
          go_roundw
          case rel => exact ⟨0 + 1, by omega, by go_num, Lib.hid HOK.out, below_add HB.out HT.out HB.out.size⟩
          case measure => simp [intOf]; omega
      | succ j =>
        have hjl : j < zs.length := by omega
        obtain ⟨p0, p1, ps⟩ := HPV.out j hjl
        have HOKI := Lib.hid (show Prp ((zs.take (j + 1 + 1)).map Bz.b) ↔ 0 < z.n ∧ zs[j].s ≠ z.s from by rw [HNX.out j hlt HP.out, HZK.out])
        have HC3 := Lib.hid (cell_below HB1.out p1)
        have HS2 := Lib.hid (ps.below HB1.out (Nat.le_refl _))
        have hj1 : ((j + 1 : Nat) : Int) = (j : Int) + 1 := by omega
        have hwr : IntKind.i64.wrap (j : Int) = (j : Int) := by rw [IntKind.wrap_i64]; omega
        have hi1 : (j : Int) + 1 < (zs.length : Int) := by omega
        have hi2 : (0 : Int) ≤ (j : Int) + 1 := by omega
        have hi3 : (j : Int) < (zs.length : Int) := by omega
        have hi4 : ((j : Int) + 1).toNat = j + 1 := by omega
        have hi5 : (0 : Int) < (j : Int) + 1 := by omega
        rw [hj1]
        obtain ⟨y, hy⟩ : ∃ y, zs[j] = y := ⟨_, rfl⟩
        rw [hy] at p0 p1 ps HOKI HC3 HS2
        by_cases hn : z.n ≤ 0
        · have g0 : decide (z.n ≤ 0) = true := decide_eq_true hn
          have HBAD := Lib.hid (HBADK.out (fun h => by have := (HOKI.out.1 h).1; omega))
          clear HBADK HIF HNX HPV hs ps hy
          go_upto_region 4 with fail
          generalize hW : wr.alloc (.cells (bcs z.n z.a z.s.length z.c) 34) = W at *
          have CX := HBX
          clear hW
          refine region_classw (C := PuC W) (by kernel_rfl) (by kernel_rfl) (PuC.start W) ?_
          repeat (first
            | (first
                 | refine w_skip (by rfl) (by rfl) ?_
                 | refine w_skipn (by rfl) (by rfl) ?_
               simp only [Act.put, List.setIfInBounds_toArray, List.set_cons_zero, List.set_cons_succ])
            | (first
                 | refine w_val (v := ?_) (by rfl) (fun w9 hS => ?_) ?_
                 | refine w_valg (v := ?_) (by rfl) (by rfl) (fun w9 hS => ?_) ?_
               rotate_left
               · have hB9 : Below W.heap.size W w9 := hS
                 obtain ⟨g1, g2⟩ := CX.out.below hB9
                 go_simp
                 try with_reducible rfl
               simp only [Act.put, List.setIfInBounds_toArray, List.set_cons_zero, List.set_cons_succ]))
          refine w_end ?_
          intro w5 hT
          have HT := Lib.hid (show Below W.heap.size W w5 from hT)
          clear hT
          go_wp2_with fail
          go_ret
          exact ⟨prpB_no HBAD.out, below_add HB.out HT.out HB.out.size⟩
        · have g0 : decide (z.n ≤ 0) = false := decide_eq_false hn
          by_cases hys : y.s = z.s
          · have HBAD := Lib.hid (HBADK.out (fun h => (HOKI.out.1 h).2 hys))
            have HYS := Lib.hid hys
            clear HBADK HIF HNX HPV hs ps hy hys
            go_upto_region 4 with fail
            generalize hW : wr.alloc (.cells (bcs z.n z.a z.s.length z.c) 34) = W at *
            have CX := HBX
            have C3 := HC3
            have KS := Lib.hid (fun w9 (hS : PuC W w9) => (same_any5 _ _ y.s z.s w9 (HS2.out.below hS (Nat.le_refl _)) (HS1.out.below hS (Nat.le_refl _))).mono fun e w' (h : _ ∧ _) => (⟨by rw [h.1, decide_eq_true HYS.out], (show Below _ _ _ from hS).trans (h.2.mono (show Below _ _ _ from hS).size)⟩ : e = .returned (.bool true) ∧ PuC W w'))
            clear hW
            refine region_classw (C := PuC W) (by kernel_rfl) (by kernel_rfl) (PuC.start W) ?_
            repeat (first
              | (first
                   | refine w_skip (by rfl) (by rfl) ?_
                   | refine w_skipn (by rfl) (by rfl) ?_
                 simp only [Act.put, List.setIfInBounds_toArray, List.set_cons_zero, List.set_cons_succ])
              | (first
                   | refine w_val (v := ?_) (by rfl) (fun w9 hS => ?_) ?_
                   | refine w_valg (v := ?_) (by rfl) (by rfl) (fun w9 hS => ?_) ?_
                 rotate_left
                 · have hB9 : Below W.heap.size W w9 := hS
                   obtain ⟨g1, g2⟩ := CX.out.below hB9
                   have g3 := cell_below hB9 C3.out
                   go_simp
                   try with_reducible rfl
                 simp only [Act.put, List.setIfInBounds_toArray, List.set_cons_zero, List.set_cons_succ])
              | (first
                   | refine w_call (by rfl) (fun w9 hS => ?_) KS.out ?_
                   | refine w_callg (by rfl) (by rfl) (fun w9 hS => ?_) KS.out ?_
                 · have hB9 : Below W.heap.size W w9 := hS
                   obtain ⟨g1, g2⟩ := CX.out.below hB9
                   have g3 := cell_below hB9 C3.out
                   go_simp
                 simp only [Act.put, List.setIfInBounds_toArray, List.set_cons_zero, List.set_cons_succ]))
            refine w_end ?_
            intro w5 hT
            have HT := Lib.hid (show Below W.heap.size W w5 from hT)
            clear hT
            go_wp2_with fail
            go_ret
            exact ⟨prpB_no HBAD.out, below_add HB.out HT.out HB.out.size⟩
          · have HOK := Lib.hid (HOKI.out.2 ⟨by omega, hys⟩)
            have HYS := Lib.hid hys
            clear HBADK HIF HNX HPV hs ps hy hys
            go_upto_region 4 with fail
            generalize hW : wr.alloc (.cells (bcs z.n z.a z.s.length z.c) 34) = W at *
            have CX := HBX
            have C3 := HC3
            have KS := Lib.hid (fun w9 (hS : PuC W w9) => (same_any5 _ _ y.s z.s w9 (HS2.out.below hS (Nat.le_refl _)) (HS1.out.below hS (Nat.le_refl _))).mono fun e w' (h : _ ∧ _) => (⟨by rw [h.1, decide_eq_false HYS.out], (show Below _ _ _ from hS).trans (h.2.mono (show Below _ _ _ from hS).size)⟩ : e = .returned (.bool false) ∧ PuC W w'))
            clear hW
            refine region_classw (C := PuC W) (by kernel_rfl) (by kernel_rfl) (PuC.start W) ?_
            repeat (first
              | (first
                   | refine w_skip (by rfl) (by rfl) ?_
                   | refine w_skipn (by rfl) (by rfl) ?_
                 simp only [Act.put, List.setIfInBounds_toArray, List.set_cons_zero, List.set_cons_succ])
              | (first
                   | refine w_val (v := ?_) (by rfl) (fun w9 hS => ?_) ?_
                   | refine w_valg (v := ?_) (by rfl) (by rfl) (fun w9 hS => ?_) ?_
                 rotate_left
                 · have hB9 : Below W.heap.size W w9 := hS
                   obtain ⟨g1, g2⟩ := CX.out.below hB9
                   have g3 := cell_below hB9 C3.out
                   go_simp
                   try with_reducible rfl
                 simp only [Act.put, List.setIfInBounds_toArray, List.set_cons_zero, List.set_cons_succ])
              | (first
                   | refine w_call (by rfl) (fun w9 hS => ?_) KS.out ?_
                   | refine w_callg (by rfl) (by rfl) (fun w9 hS => ?_) KS.out ?_
                 · have hB9 : Below W.heap.size W w9 := hS
                   obtain ⟨g1, g2⟩ := CX.out.below hB9
                   have g3 := cell_below hB9 C3.out
                   go_simp
                 simp only [Act.put, List.setIfInBounds_toArray, List.set_cons_zero, List.set_cons_succ]))
            refine w_end ?_
            intro w5 hT
            have HT := Lib.hid (show Below W.heap.size W w5 from hT)
            clear hT
            go_wp2_with fail
            go_roundw
            case rel => exact ⟨j + 1 + 1, by omega, by go_num, Lib.hid HOK.out, below_add HB.out HT.out HB.out.size⟩
            case measure => simp [intOf]; omega
    · obtain rfl : k = zs.length := by omega
      have HE := Lib.hid (show Prp (zs.map Bz.b) from by have := HP.out; rwa [List.take_of_length_le (Nat.le_refl _)] at this)
      clear HP
      go_wp2
      go_ret
      exact ⟨prpB_yes HE.out, hb⟩
end Go.Proofs.Ytclbjfeneegicaa
