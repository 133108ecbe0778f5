
import Derived.Test.YthbehjilabedoaaA23
import Derived.Deep.RegionHeld3
/- A24: AttrsSame, of sets that rise -/
namespace Go.Proofs.Ythbehjilabedoaa
open Go.RowKit
set_option linter.unusedVariables false

theorem without_both (v : Value) (ls : List Att) (key : Int) (hr : Rise ls) (hl : ls.length ≤ 1000) (w : World) (hv : Arow w v ls) :
    Calls Try.prog 20 #[v, .int .i64 key] w fun e w' => ∃ u, e = .returned u ∧ Hid (Arow w' u (without5 ls key)) ∧ Below w.heap.size w w' :=
  (without_rise v ls key hr w hv hl).mono fun e w' ⟨u, he, ho, hb⟩ => ⟨u, he, Lib.hid ho.row, hb⟩
theorem copy_both (v : Value) (ls : List Att) (hl : ls.length ≤ 1000) (w : World) (hv : Arow w v ls) :
    Calls Try.prog 16 #[v] w fun e w' => ∃ u, e = .returned u ∧ Hid (Arow w' u ls) ∧ Below w.heap.size w w' :=
  (copy_any5 v ls w hv (by omega)).mono fun e w' ⟨u, he, ho, hb⟩ => ⟨u, he, Lib.hid ho.row, hb⟩

set_option maxRecDepth 100000 in
set_option maxHeartbeats 1000000 in
theorem same_main (u1 : Value) (ub : Option Addr) (ucap : Nat) (xs ys : List Att) (a : Att) (w : World) (h1 : Arow w u1 xs) (h2 : Arow w (.slice ub ys.length ucap) ys) (hg1 : ¬ great5 xs) (hg2 : ¬ great5 ys) (hr1 : Rise xs) (hr2 : Rise ys) :
    Calls Try.prog 6 #[u1, .slice ub ys.length ucap, av a] w fun e w' => e = .returned (.bool true) ∧ Below w.heap.size w w' := by
  have HK := Lib.hid (fun w => known_any5 w)
  have hB0 := (Below.refl w.heap.size w).alloc (Nat.le_refl _) (.cells (aca a) 28)
  have hbx := ABox.box a w 28
  have hu1 := h1.below hB0 (Nat.le_refl _)
  have hu2 := h2.below hB0 (Nat.le_refl _)
  have hy63 : ys.length ≤ 9223372036854775807 := h2.len
  have hx100 := (not_great hg1).1
  have hy100 := (not_great hg2).1
  have rHG1 := great_any u1 xs _ hu1
  have rHG2 := great_any (.slice ub ys.length ucap) ys _ hu2
  rw [decide_eq_false hg1] at rHG1
  rw [decide_eq_false hg2] at rHG2
  have rHR1 := rising_any5 u1 xs _ hu1
  rw [decide_eq_true hr1] at rHR1
  have rHR2 := fun q => rising_any5 (.slice ub ys.length ucap) ys ((w.alloc (.cells (aca a) 28)).drewN q) (row_drewN hu2 q)
  rw [decide_eq_true hr2] at rHR2
  have HG1 := Lib.hid rHG1
  have HG2 := Lib.hid rHG2
  have HR1 := Lib.hid rHR1
  have HR2 := Lib.hid rHR2
  have HU1 := Lib.hid hu1
  have HU2 := Lib.hid hu2
  have HCP := Lib.hid (fun w hv => copy_both u1 xs (by omega) w hv)
  obtain ⟨s, hs⟩ : ∃ s, decide (xs = ys) = s := ⟨_, rfl⟩
  have HSab := Lib.hid (fun w h1 h2 => by have := same_any5 u1 (.slice ub ys.length ucap) xs ys w h1 h2; rw [hs] at this; exact this)
  have HSba := Lib.hid (fun w h1 h2 => by have := same_any5 (.slice ub ys.length ucap) u1 ys xs w h1 h2; rw [show decide (ys = xs) = s by rw [← hs, decide_eq_decide]; exact eq_comm] at this; exact this)
  have HSE := Lib.hid (fun (h : s = true) => (by rw [← hs] at h; simpa using h : xs = ys))
  have HSS := Lib.hid (fun v w hv hu => same_yes v u1 xs w hv hu)
  have hwl := with_len xs a
  have HW1 := Lib.hid (fun w hv => with_both u1 xs a hr1 (by omega) w hv)
  have HW2 := Lib.hid (fun v w hv => with_both v (with5 xs a) a (rise_with a hr1) (by omega) w hv)
  have HO1 := Lib.hid (fun v w hv => without_both v (with5 xs a) a.key (rise_with a hr1) (by omega) w hv)
  have HO2 := Lib.hid (fun w hv => without_both u1 xs a.key hr1 (by omega) w hv)
  have HWW := Lib.hid (fun v1 v2 w h1 h2 => same_yes v1 v2 (with5 xs a) w h1 h2)
  have HOO := Lib.hid (fun v1 v2 w h1 h2 => same_yes v1 v2 (without5 xs a.key) w h1 h2)
  have HTW := Lib.hid (with_twice a hr1)
  have HWO := Lib.hid (without_with a hr1)
  have HGA := Lib.hid (fun w hv => get_rise u1 xs a.key hr1 w hv (by omega))
  have HGE := Lib.hid (fun key w hv => get_rise u1 xs key hr1 w hv (by omega))
  have HBX := Lib.hid hbx
  have HRR := Lib.hid (⟨hr1, hr2⟩ : Rise xs ∧ Rise ys)
  clear rHG1 rHG2 rHR1 rHR2 h1 h2 hg1 hg2 hu1 hu2 hwl hbx hs hr1 hr2
  obtain ⟨g0, g1, g2, g3, g4⟩ := HBX.out
  go_enter Try.func6, Try.ntmps6
  go_wp2_with (first
    | (go_at_call 8; with_reducible (refine HG1.out.mono ?_); rintro e w8 ⟨rfl, rfl⟩; clear HG1)
    | (go_at_call 8; with_reducible (refine HG2.out.mono ?_); rintro e w8 ⟨rfl, rfl⟩; clear HG2)
    | (go_at_call 17; with_reducible (refine HR1.out.mono ?_); rintro e w7 ⟨rfl, q7, rfl⟩; clear HR1)
    | (go_at_call 17; with_reducible (refine (HR2.out q7).mono ?_); rintro e w8 ⟨rfl, q8, rfl⟩; have hE := blw_drewN hB0 (q7 + q8); have HU1q := Lib.hid (row_drewN HU1.out (q7 + q8)); have HU2q := Lib.hid (row_drewN HU2.out (q7 + q8)); have hx := HBX.out.below (Below.drewN' (Below.refl (w.heap.size + 1) _) (q7 + q8)) (by omega))
    | (go_at_call 14; with_reducible (refine (HSS.out u1 _ HU1q.out HU1q.out).mono ?_); rintro e w2 ⟨rfl, hb2⟩; have hE2 := below_add hE hb2 hE.size; have HU12 := Lib.hid (HU1q.out.below hb2 (Nat.le_refl _)); have HU22 := Lib.hid (HU2q.out.below hb2 (Nat.le_refl _)); have hx2 := hx.below hb2 hx.lt)
    | (go_at_call 16; with_reducible (refine (HCP.out _ HU12.out).mono ?_); rintro e w3 ⟨u3, rfl, H3, hb3⟩; have hE3 := below_add hE2 hb3 hE2.size; have HU13 := Lib.hid (HU12.out.below hb3 (Nat.le_refl _)); have HU23 := Lib.hid (HU22.out.below hb3 (Nat.le_refl _)); have hx3 := hx2.below hb3 hx2.lt)
    | (go_at_call 14; with_reducible (refine (HSS.out u3 _ H3.out HU13.out).mono ?_); rintro e w4 ⟨rfl, hb4⟩; have hE4 := below_add hE3 hb4 hE3.size; have HU14 := Lib.hid (HU13.out.below hb4 (Nat.le_refl _)); have HU24 := Lib.hid (HU23.out.below hb4 (Nat.le_refl _)); have hx4 := hx3.below hb4 hx3.lt)
    | (go_at_call 14; with_reducible (refine (HSab.out _ HU14.out HU24.out).mono ?_); rintro e w5 ⟨rfl, hb5⟩; have hE5 := below_add hE4 hb5 hE4.size; have HU15 := Lib.hid (HU14.out.below hb5 (Nat.le_refl _)); have HU25 := Lib.hid (HU24.out.below hb5 (Nat.le_refl _)); have hx5 := hx4.below hb5 hx4.lt)
    | (go_at_call 14; with_reducible (refine (HSba.out _ HU25.out HU15.out).mono ?_); rintro e w6 ⟨rfl, hb6⟩; have hE6 := below_add hE5 hb6 hE5.size; have HU16 := Lib.hid (HU15.out.below hb6 (Nat.le_refl _)); have HU26 := Lib.hid (HU25.out.below hb6 (Nat.le_refl _)); have hx6 := hx5.below hb6 hx5.lt))
  have hx6d := hx6.below (Below.refl _ _).drew hx6.lt
  have HX6 := Lib.hid hx6d
  have HU1a := Lib.hid (HU16.out.below (Below.refl _ _).drew (Nat.le_refl _))
  have HE6 := Lib.hid hE6.drew
  have HU2a := Lib.hid (HU26.out.below (Below.refl _ _).drew (Nat.le_refl _))
  clear HU16 HU26 HU15 HU25 HU14 HU24 HU13 HU23 HU12 HU22 HU1q HU2q hE hE2 hE3 hE4 hE5 hE6 hx hx2 hx3 hx4 hx5 hx6 hb2 hb3 hb4 hb5 hb6 g0 g1 g2 g3 g4 HU1 HU2 HBX hB0 HSS HSba HCP HR2 H3
  go_region_held3 (fun w' => ABox w.heap.size a w') (first | assumption | trivial)
    (first
      | (go_at_call 19; with_reducible (refine (HW1.out _ HU1a.out).mono ?_); rintro e w7 ⟨u7, rfl, H7, hb7⟩; have hx7 := HX6.out.below hb7 HX6.out.lt)
      | (go_at_call 19; with_reducible (refine (HW2.out u7 _ H7.out).mono ?_); rintro e w8 ⟨u8, rfl, H8, hb8⟩; have hx8 := hx7.below hb8 hx7.lt))
  have hb68 := below_add hb7 hb8 hb7.size
  have hE8 := below_add HE6.out hb68 HE6.out.size
  rw [HTW.out] at H8
  have HX8 := Lib.hid (hx8.below (Below.refl _ _).drew hx8.lt)
  have HC8 := Lib.hid (H8.out.below (Below.refl _ _).drew (Nat.le_refl _))
  have HU1b := Lib.hid ((HU1a.out.below hb68 (Nat.le_refl _)).below (Below.refl _ _).drew (Nat.le_refl _))
  have HU2b := Lib.hid ((HU2a.out.below hb68 (Nat.le_refl _)).below (Below.refl _ _).drew (Nat.le_refl _))
  have HE8 := Lib.hid hE8.drew
  have hxd := HX8.out
  clear hb68 hE8 H7 H8 hb7 hb8 hx7 hx6d HX6 HU1a HU2a HE6 hx8 HW2 HTW
  go_wp2_with fail
  go_region_held3 (fun w' => ABox w.heap.size a w') (first | assumption | trivial)
    (first
      | (go_at_call 19; with_reducible (refine (HW1.out _ HU1b.out).mono ?_); rintro e w9 ⟨u9, rfl, H9, hb9⟩; have hx9 := HX8.out.below hb9 HX8.out.lt; have HC9 := Lib.hid (HC8.out.below hb9 (Nat.le_refl _)); have HU9 := Lib.hid (HU1b.out.below hb9 (Nat.le_refl _)))
      | (go_at_call 14; with_reducible (refine (HWW.out u8 u9 _ HC9.out H9.out).mono ?_); rintro e w10 ⟨rfl, hb10⟩; have hx10 := hx9.below hb10 hx9.lt; have HC10 := Lib.hid (HC9.out.below hb10 (Nat.le_refl _)); have HU10 := Lib.hid (HU9.out.below hb10 (Nat.le_refl _)))
      | (go_at_call 20; with_reducible (refine (HO1.out u8 _ HC10.out).mono ?_); rintro e w11 ⟨u11, rfl, H11, hb11⟩; rw [HWO.out] at H11; have hx11 := hx10.below hb11 hx10.lt; have HU11 := Lib.hid (HU10.out.below hb11 (Nat.le_refl _)))
      | (go_at_call 20; with_reducible (refine (HO2.out _ HU11.out).mono ?_); rintro e w12 ⟨u12, rfl, H12, hb12⟩; have hx12 := hx11.below hb12 hx11.lt; have H11b := Lib.hid (H11.out.below hb12 (Nat.le_refl _)); have HU12 := Lib.hid (HU11.out.below hb12 (Nat.le_refl _)))
      | (go_at_call 14; with_reducible (refine (HOO.out u11 u12 _ H11b.out H12.out).mono ?_); rintro e w13 ⟨rfl, hb13⟩; have hx13 := hx12.below hb13 hx12.lt; have HU13 := Lib.hid (HU12.out.below hb13 (Nat.le_refl _))))
  have hb8d := below_add (below_add (below_add (below_add hb9 hb10 hb9.size) hb11 (below_add hb9 hb10 hb9.size).size) hb12 (below_add (below_add hb9 hb10 hb9.size) hb11 (below_add hb9 hb10 hb9.size).size).size) hb13 (below_add (below_add (below_add hb9 hb10 hb9.size) hb11 (below_add hb9 hb10 hb9.size).size) hb12 (below_add (below_add hb9 hb10 hb9.size) hb11 (below_add hb9 hb10 hb9.size).size).size).size
  have hE13 := below_add HE8.out hb8d HE8.out.size
  have HU2c := Lib.hid (HU2b.out.below hb8d (Nat.le_refl _))
  clear hb8d hb9 hb10 hb11 hb12 hb13 hx9 hx10 hx11 hx12 hxd HC8 HC9 HC10 HX8 HU1b HU2b HE8 HU9 HU10 HU11 HU12 H9 H11 H12 H11b HWO HO1 HO2 HWW HOO
  have HX := Lib.hid hx13
  have HE13 := Lib.hid hE13
  have hga := HGA.out _ HU13.out
  clear hE13 HGA
  cases hf : getA xs a.key with
  | none =>
    rw [getV_none hf] at hga
    have HGA := Lib.hid hga
    clear hga hf
    go_wp2_with (go_at_call 18; with_reducible (refine HGA.out.mono ?_); rintro e w14 ⟨rfl, hb14⟩)
    have hbL := hb14.alloc hb14.size (.cells (vcells 0 0 0 ⟨#[]⟩) 26)
    have HEL := Lib.hid (below_add HE13.out hbL HE13.out.size)
    have HU1L := Lib.hid (HU13.out.below hbL (Nat.le_refl _))
    have HU2L := Lib.hid (HU2c.out.below hbL (Nat.le_refl _))
    clear hb14 hbL hx13 HX HE13 HU13 HU2c HW1 HGA
    generalize w14.alloc (.cells (vcells 0 0 0 ⟨#[]⟩) 26) = WL at *
    by_cases h0 : 0 < ys.length
    · obtain ⟨b2, o2, rfl, -, -, -, hbl2, hat2⟩ := Arow.opn HU2L.out h0
      have HAT2 := Lib.hid hat2
      clear hat2
      go_loopw [94] (fun s94 wr => ∃ k : Nat, k ≤ ys.length ∧ s94 = .int .i64 k ∧ Below WL.heap.size WL wr) (fun s94 _ => ys.length - (intOf s94).toNat)
      case atStart => exact ⟨0, Nat.zero_le _, rfl, Below.refl _ _⟩
      case round =>
        obtain ⟨k, hk, rfl, hb⟩ := hrel
        by_cases hlt : k < ys.length
        · have hAT := (HAT2.out k hlt).below hb hbl2
          have HG := HGE.out ys[k].key wr (HU1L.out.below hb (Nat.le_refl _))
          have HSY := Lib.hid (fun (h : s = true) => (by have e := HSE.out h; have := getA_mem HRR.out.1 (a := ys[k]) (by rw [e]; exact List.getElem_mem hlt); exact this : getA xs ys[k].key = some ys[k]))
          generalize ys[k] = y at *
          obtain ⟨p, bb, hp, hpy⟩ : ∃ p bb, getV xs y.key = .tuple #[vv p, .bool bb] ∧ (s = true → p = y ∧ bb = true) := by
            cases s with
            | true => exact ⟨y, true, getV_some (HSY.out rfl), fun _ => ⟨rfl, rfl⟩⟩
            | false => obtain ⟨p, bb, h⟩ := getV_any xs y.key; exact ⟨p, bb, h, fun h => by cases h⟩
          rw [hp] at HG
          have HG := Lib.hid HG
          have HBR := Lib.hid hb
          have HAY := Lib.hid hAT
          clear hp HSY
          obtain ⟨c0, c1, c2, c3, c4⟩ := hAT
          go_wp2_with (go_at_call 18; with_reducible (refine HG.out.mono ?_); rintro e w15 ⟨rfl, hb15⟩)
          have hbq := hb15.alloc hb15.size (.cells (vcells p.k p.n p.f p.s) 26)
          have HC0 := Lib.hid (show SmC w15.heap.size b2 (o2 + k * 5) p y (w15.alloc (.cells (vcells p.k p.n p.f p.s) 26)) (w15.alloc (.cells (vcells p.k p.n p.f p.s) 26)) from ⟨At.box p.k p.n p.f p.s w15 _, HAY.out.below hbq (World.block_lt_of_cell? _ _ HAY.out.1), Below.refl _ _⟩)
          have HBQ := Lib.hid (below_add HBR.out hbq HBR.out.size)
          have KS := Lib.hid (fun w9 (hS : SmC w15.heap.size b2 (o2 + k * 5) p y (w15.alloc (.cells (vcells p.k p.n p.f p.s) 26)) w9) => (HSab.out w9 ((HU1L.out.below HBQ.out (Nat.le_refl _)).below hS.2.2 (Nat.le_refl _)) ((HU2L.out.below HBQ.out (Nat.le_refl _)).below hS.2.2 (Nat.le_refl _))).mono fun e w' (h : _ ∧ _) => (⟨h.1, hS.below h.2⟩ : _ ∧ SmC w15.heap.size b2 (o2 + k * 5) p y (w15.alloc (.cells (vcells p.k p.n p.f p.s) 26)) w'))
          clear c0 c1 c2 c3 c4 hb hbq hb15 HG
          by_cases hs : s = false
          · rw [hs] at KS
            clear hs
            clear hpy
            refine region_classw (C := SmC w15.heap.size b2 (o2 + k * 5) p y (w15.alloc (.cells (vcells p.k p.n p.f p.s) 26))) (by kernel_rfl) (by kernel_rfl) (HC0.out.below (Below.refl _ _).drew) ?_
            repeat (first
              | (first
               | refine w_skip (by rfl) (by rfl) ?_
               | refine w_skipn (by rfl) (by rfl) ?_
                 simp only [Act.put, List.setIfInBounds_toArray, List.set_cons_zero, List.set_cons_succ])
              | (first
                   | refine w_val (v := ?_) (by rfl) (fun w9 hS => ?_) ?_
                   | refine w_valg (v := ?_) (by rfl) (by rfl) (fun w9 hS => ?_) ?_
                 rotate_left
                 · obtain ⟨⟨f0, f1, f2, f3⟩, ⟨g0, g1, g2, g3, g4⟩, -⟩ := hS
                   go_simp
                   try with_reducible rfl
                 simp only [Act.put, List.setIfInBounds_toArray, List.set_cons_zero, List.set_cons_succ])
              | (first
                   | refine w_call (by rfl) (fun w9 hS => ?_) KS.out ?_
                   | refine w_callg (by rfl) (by rfl) (fun w9 hS => ?_) KS.out ?_
                 · obtain ⟨⟨f0, f1, f2, f3⟩, ⟨g0, g1, g2, g3, g4⟩, -⟩ := hS
                   go_simp
                 simp only [Act.put, List.setIfInBounds_toArray, List.set_cons_zero, List.set_cons_succ]))
            refine w_end ?_
            intro w5 T5
            have HT := Lib.hid (below_add HBQ.out T5.2.2 HBQ.out.size)
            clear T5
            go_wp2_with fail
            go_roundw
            case rel => exact ⟨k + 1, by omega, by go_num, HT.out⟩
            case measure => simp [intOf]; omega
          · have hs2 : s = true := by simpa using hs
            rw [hs2] at KS
            obtain ⟨rfl, rfl⟩ := hpy hs2
            clear hs hs2
            have hq := fun w => val_neq_self p.k p.n p.f p.s w
            refine region_classw (C := SmC w15.heap.size b2 (o2 + k * 5) p p (w15.alloc (.cells (vcells p.k p.n p.f p.s) 26))) (by kernel_rfl) (by kernel_rfl) (HC0.out.below (Below.refl _ _).drew) ?_
            repeat (first
              | (first
               | refine w_skip (by rfl) (by rfl) ?_
               | refine w_skipn (by rfl) (by rfl) ?_
                 simp only [Act.put, List.setIfInBounds_toArray, List.set_cons_zero, List.set_cons_succ])
              | (first
                   | refine w_val (v := ?_) (by rfl) (fun w9 hS => ?_) ?_
                   | refine w_valg (v := ?_) (by rfl) (by rfl) (fun w9 hS => ?_) ?_
                 rotate_left
                 · obtain ⟨⟨f0, f1, f2, f3⟩, ⟨g0, g1, g2, g3, g4⟩, -⟩ := hS
                   go_simp
                   try with_reducible rfl
                 simp only [Act.put, List.setIfInBounds_toArray, List.set_cons_zero, List.set_cons_succ])
              | (first
                   | refine w_call (by rfl) (fun w9 hS => ?_) KS.out ?_
                   | refine w_callg (by rfl) (by rfl) (fun w9 hS => ?_) KS.out ?_
                 · obtain ⟨⟨f0, f1, f2, f3⟩, ⟨g0, g1, g2, g3, g4⟩, -⟩ := hS
                   go_simp
                 simp only [Act.put, List.setIfInBounds_toArray, List.set_cons_zero, List.set_cons_succ]))
            refine w_end ?_
            intro w5 T5
            have HT := Lib.hid (below_add HBQ.out T5.2.2 HBQ.out.size)
            clear T5
            go_wp2_with fail
            go_roundw
            case rel => exact ⟨k + 1, by omega, by go_num, HT.out⟩
            case measure => simp [intOf]; omega
        · obtain rfl : k = ys.length := by omega
          have HB := Lib.hid (below_add HEL.out hb HEL.out.size)
          clear hb
          go_wp2_with (go_at_call 9; refine (HK.out _).mono ?_; rintro e w20 ⟨rfl, hb20⟩)
          go_ret
          exact ⟨rfl, below_add HB.out hb20 HB.out.size⟩
    · obtain rfl : ys = [] := List.eq_nil_of_length_eq_zero (by omega)
      clear h0
      refine wp_loop_rounds 1 ?_
      rw [rounds_succ]
      go_wp2_with (go_at_call 9; refine (HK.out _).mono ?_; rintro e w20 ⟨rfl, hb20⟩)
      go_ret
      exact ⟨rfl, below_add HEL.out hb20 HEL.out.size⟩
  | some b =>
    rw [getV_some hf] at hga
    obtain ⟨hbm, hbk⟩ := getA_some hf
    have HWB := Lib.hid (fun w hv => by have := with_both u1 xs b HRR.out.1 (by omega) w hv; rw [with_same HRR.out.1 hbm] at this; exact this)
    have HSU := Lib.hid (fun v w h1 h2 => same_yes v u1 xs w h1 h2)
    obtain ⟨b1, b2, b3, b4, b5⟩ := b
    simp only at hbk
    subst hbk
    have HGA := Lib.hid hga
    clear hga hf hbm HW1
    go_wp2_with (go_at_call 18; with_reducible (refine HGA.out.mono ?_))
    rintro e w14 ⟨rfl, hb14⟩
    have hbL := hb14.alloc hb14.size (.cells (vcells b2 b3 b4 b5) 26)
    have HE14 := Lib.hid (below_add HE13.out hbL HE13.out.size)
    have HU14 := Lib.hid (HU13.out.below hbL (Nat.le_refl _))
    have HU2d := Lib.hid (HU2c.out.below hbL (Nat.le_refl _))
    obtain ⟨g0, g1, g2, g3, g4⟩ := HX.out.below hbL HX.out.lt
    clear hb14 hbL hx13 HX HE13 HU13 HU2c HGA
    go_wp2_with (first
      | (go_at_call 19; with_reducible (refine (HWB.out _ HU14.out).mono ?_); rintro e w16 ⟨u16, rfl, H16, hb16⟩; have HU16 := Lib.hid (HU14.out.below hb16 (Nat.le_refl _)))
      | (go_at_call 14; with_reducible (refine (HSU.out u16 _ H16.out HU16.out).mono ?_); rintro e w17 ⟨rfl, hb17⟩))
    have hb167 := below_add hb16 hb17 hb16.size
    have HEL := Lib.hid (below_add HE14.out hb167 HE14.out.size)
    have HU1L := Lib.hid (HU14.out.below hb167 (Nat.le_refl _))
    have HU2L := Lib.hid (HU2d.out.below hb167 (Nat.le_refl _))
    clear hb167 hb16 hb17 HE14 HU14 HU2d H16 HU16 g0 g1 g2 g3 g4 HWB HSU
    by_cases h0 : 0 < ys.length
    · obtain ⟨b2, o2, rfl, -, -, -, hbl2, hat2⟩ := Arow.opn HU2L.out h0
      have HAT2 := Lib.hid hat2
      clear hat2
      go_loopw [94] (fun s94 wr => ∃ k : Nat, k ≤ ys.length ∧ s94 = .int .i64 k ∧ Below w17.heap.size w17 wr) (fun s94 _ => ys.length - (intOf s94).toNat)
      case atStart => exact ⟨0, Nat.zero_le _, rfl, Below.refl _ _⟩
      case round =>
        obtain ⟨k, hk, rfl, hb⟩ := hrel
        by_cases hlt : k < ys.length
        · have hAT := (HAT2.out k hlt).below hb hbl2
          have HG := HGE.out ys[k].key wr (HU1L.out.below hb (Nat.le_refl _))
          have HSY := Lib.hid (fun (h : s = true) => (by have e := HSE.out h; have := getA_mem HRR.out.1 (a := ys[k]) (by rw [e]; exact List.getElem_mem hlt); exact this : getA xs ys[k].key = some ys[k]))
          generalize ys[k] = y at *
          obtain ⟨p, bb, hp, hpy⟩ : ∃ p bb, getV xs y.key = .tuple #[vv p, .bool bb] ∧ (s = true → p = y ∧ bb = true) := by
            cases s with
            | true => exact ⟨y, true, getV_some (HSY.out rfl), fun _ => ⟨rfl, rfl⟩⟩
            | false => obtain ⟨p, bb, h⟩ := getV_any xs y.key; exact ⟨p, bb, h, fun h => by cases h⟩
          rw [hp] at HG
          have HG := Lib.hid HG
          have HBR := Lib.hid hb
          have HAY := Lib.hid hAT
          clear hp HSY
          obtain ⟨c0, c1, c2, c3, c4⟩ := hAT
          go_wp2_with (go_at_call 18; with_reducible (refine HG.out.mono ?_); rintro e w15 ⟨rfl, hb15⟩)
          have hbq := hb15.alloc hb15.size (.cells (vcells p.k p.n p.f p.s) 26)
          have HC0 := Lib.hid (show SmC w15.heap.size b2 (o2 + k * 5) p y (w15.alloc (.cells (vcells p.k p.n p.f p.s) 26)) (w15.alloc (.cells (vcells p.k p.n p.f p.s) 26)) from ⟨At.box p.k p.n p.f p.s w15 _, HAY.out.below hbq (World.block_lt_of_cell? _ _ HAY.out.1), Below.refl _ _⟩)
          have HBQ := Lib.hid (below_add HBR.out hbq HBR.out.size)
          have KS := Lib.hid (fun w9 (hS : SmC w15.heap.size b2 (o2 + k * 5) p y (w15.alloc (.cells (vcells p.k p.n p.f p.s) 26)) w9) => (HSab.out w9 ((HU1L.out.below HBQ.out (Nat.le_refl _)).below hS.2.2 (Nat.le_refl _)) ((HU2L.out.below HBQ.out (Nat.le_refl _)).below hS.2.2 (Nat.le_refl _))).mono fun e w' (h : _ ∧ _) => (⟨h.1, hS.below h.2⟩ : _ ∧ SmC w15.heap.size b2 (o2 + k * 5) p y (w15.alloc (.cells (vcells p.k p.n p.f p.s) 26)) w'))
          clear c0 c1 c2 c3 c4 hb hbq hb15 HG
          by_cases hs : s = false
          · rw [hs] at KS
            clear hs
            clear hpy
            refine region_classw (C := SmC w15.heap.size b2 (o2 + k * 5) p y (w15.alloc (.cells (vcells p.k p.n p.f p.s) 26))) (by kernel_rfl) (by kernel_rfl) (HC0.out.below (Below.refl _ _).drew) ?_
            repeat (first
              | (first
               | refine w_skip (by rfl) (by rfl) ?_
               | refine w_skipn (by rfl) (by rfl) ?_
                 simp only [Act.put, List.setIfInBounds_toArray, List.set_cons_zero, List.set_cons_succ])
              | (first
                   | refine w_val (v := ?_) (by rfl) (fun w9 hS => ?_) ?_
                   | refine w_valg (v := ?_) (by rfl) (by rfl) (fun w9 hS => ?_) ?_
                 rotate_left
                 · obtain ⟨⟨f0, f1, f2, f3⟩, ⟨g0, g1, g2, g3, g4⟩, -⟩ := hS
                   go_simp
                   try with_reducible rfl
                 simp only [Act.put, List.setIfInBounds_toArray, List.set_cons_zero, List.set_cons_succ])
              | (first
                   | refine w_call (by rfl) (fun w9 hS => ?_) KS.out ?_
                   | refine w_callg (by rfl) (by rfl) (fun w9 hS => ?_) KS.out ?_
                 · obtain ⟨⟨f0, f1, f2, f3⟩, ⟨g0, g1, g2, g3, g4⟩, -⟩ := hS
                   go_simp
                 simp only [Act.put, List.setIfInBounds_toArray, List.set_cons_zero, List.set_cons_succ]))
            refine w_end ?_
            intro w5 T5
            have HT := Lib.hid (below_add HBQ.out T5.2.2 HBQ.out.size)
            clear T5
            go_wp2_with fail
            go_roundw
            case rel => exact ⟨k + 1, by omega, by go_num, HT.out⟩
            case measure => simp [intOf]; omega
          · have hs2 : s = true := by simpa using hs
            rw [hs2] at KS
            obtain ⟨rfl, rfl⟩ := hpy hs2
            clear hs hs2
            have hq := fun w => val_neq_self p.k p.n p.f p.s w
            refine region_classw (C := SmC w15.heap.size b2 (o2 + k * 5) p p (w15.alloc (.cells (vcells p.k p.n p.f p.s) 26))) (by kernel_rfl) (by kernel_rfl) (HC0.out.below (Below.refl _ _).drew) ?_
            repeat (first
              | (first
               | refine w_skip (by rfl) (by rfl) ?_
               | refine w_skipn (by rfl) (by rfl) ?_
                 simp only [Act.put, List.setIfInBounds_toArray, List.set_cons_zero, List.set_cons_succ])
              | (first
                   | refine w_val (v := ?_) (by rfl) (fun w9 hS => ?_) ?_
                   | refine w_valg (v := ?_) (by rfl) (by rfl) (fun w9 hS => ?_) ?_
                 rotate_left
                 · obtain ⟨⟨f0, f1, f2, f3⟩, ⟨g0, g1, g2, g3, g4⟩, -⟩ := hS
                   go_simp
                   try with_reducible rfl
                 simp only [Act.put, List.setIfInBounds_toArray, List.set_cons_zero, List.set_cons_succ])
              | (first
                   | refine w_call (by rfl) (fun w9 hS => ?_) KS.out ?_
                   | refine w_callg (by rfl) (by rfl) (fun w9 hS => ?_) KS.out ?_
                 · obtain ⟨⟨f0, f1, f2, f3⟩, ⟨g0, g1, g2, g3, g4⟩, -⟩ := hS
                   go_simp
                 simp only [Act.put, List.setIfInBounds_toArray, List.set_cons_zero, List.set_cons_succ]))
            refine w_end ?_
            intro w5 T5
            have HT := Lib.hid (below_add HBQ.out T5.2.2 HBQ.out.size)
            clear T5
            go_wp2_with fail
            go_roundw
            case rel => exact ⟨k + 1, by omega, by go_num, HT.out⟩
            case measure => simp [intOf]; omega
        · obtain rfl : k = ys.length := by omega
          have HB := Lib.hid (below_add HEL.out hb HEL.out.size)
          clear hb
          go_wp2_with (go_at_call 9; refine (HK.out _).mono ?_; rintro e w20 ⟨rfl, hb20⟩)
          go_ret
          exact ⟨rfl, below_add HB.out hb20 HB.out.size⟩
    · obtain rfl : ys = [] := List.eq_nil_of_length_eq_zero (by omega)
      clear h0
      refine wp_loop_rounds 1 ?_
      rw [rounds_succ]
      go_wp2_with (go_at_call 9; refine (HK.out _).mono ?_; rintro e w20 ⟨rfl, hb20⟩)
      go_ret
      exact ⟨rfl, below_add HEL.out hb20 HEL.out.size⟩
end Go.Proofs.Ythbehjilabedoaa
