
import Derived.Test.YtoienmcgcefdiaaS18
import Derived.BigQuiet
import Derived.Deep.QuietTactic
import Derived.Deep.CutRange
import Derived.Deep.DeepCutAuto
/- S21: SchemaGroups -/
namespace Go.Proofs.Ytoienmcgcefdiaa
open Go.RowKit
set_option linter.unusedVariables false

theorem groups_long (v : Value) (ks : List Key) (w : World) (hv : Krow w v ks) (hl : 64 < ks.length) :
    Calls Try.prog 4 #[v] w fun e w' => e = .returned (.bool true) ∧ Below w.heap.size w w' := by
  have HKN := Lib.hid (fun w => skn_any w)
  have hb := hv.len
  obtain ⟨a, cap, rfl⟩ := hv.shape
  clear hv
  go_enter Try.func4, Try.ntmps4
  go_wp2_with (go_at_call 7; refine (HKN.out _).mono ?_; rintro e w' ⟨rfl, hb⟩)
  go_ret
  exact ⟨rfl, hb⟩

set_option maxRecDepth 100000 in
set_option maxHeartbeats 2000000 in
theorem groups_bad (v : Value) (ks : List Key) (w : World) (hv : Krow w v ks) (hW : ∀ k ∈ ks, KeyW k) (hl : ks.length ≤ 64) (h0 : 0 < ks.length) (hm : ¬ mayKs ks) :
    Calls Try.prog 4 #[v] w fun e w' => e = .returned (.bool true) ∧ Below w.heap.size w w' := by
  have HKN := Lib.hid (fun w => skn_any w)
  obtain ⟨i0, hi, hz0, hz1, hz2⟩ := info_parts infoKey
  have HN1 := Lib.hid (fun W hb => new_no (hv.below (w' := W) hb (Nat.le_refl _)) hW hm)
  have HN2 := Lib.hid (fun v2 W hv2 => new_no (v := v2) (w := W) hv2 (keyW_reverse hW) (fun h => hm ((mayKs_reverse ks).1 h)))
  obtain ⟨a, cap, rfl⟩ := hv.shape
  obtain ⟨b, off, rfl, -, -, -, hbl, hat⟩ := hv.opened h0
  have HAT := Lib.hid hat
  clear hv hat hm
  have d64 : decide ((64 : Int) < (ks.length : Int)) = false := by rw [decide_eq_false_iff_not]; omega
  go_enter Try.func4, Try.ntmps4
  go_wp2
  go_loopw [3, 19] (fun o i wr => ∃ j : Nat, j ≤ ks.length ∧ i = .int .i64 j ∧ BackRel w ks j o wr) (fun _ i _ => ks.length - (intOf i).toNat)
  case atStart => exact ⟨0, Nat.zero_le _, rfl, back_init w ks⟩
  case round =>
    obtain ⟨j, hj, rfl, hR⟩ := hrel
    by_cases hlt : j < ks.length
    · have hjj : ks.length - 1 - j < ks.length := by omega
      obtain ⟨c0, c1, c2, c3, c4, c5⟩ := (HAT.out _ hjj).below hR.2 hbl
      have hown := hR.1
      have hbs := hR.2.size
      have hlen : (ks.reverse.take j).length ≤ 64 := by rw [List.length_take, List.length_reverse]; omega
      have HST := Lib.hid (fun wx w3 v3 c hc hb h1 h2 => back_step (wx := wx) (w3 := w3) (v3 := v3) (c := c) hR hlt hc hb h1 h2)
      have HST := Lib.hid (fun wx w3 v3 => HST.out wx w3 v3 _ rfl)
      clear hR
      generalize ks[ks.length - 1 - j] = c at *
      obtain ⟨x1, x2, x3, x4, x5, x6⟩ := c
      simp only at c0 c1 c2 c3 c4 c5
      generalize ks.reverse.take j = rs at *
      have q1 : (ks.length : Int) - 1 - (j : Int) = ((ks.length - 1 - j : Nat) : Int) := by omega
      go_wp2_with (at_builtin; refine wpList_append_own _ rfl (.tmp 22) (.tmp 31) 22 rfl w.heap.size 32 i0 (kv noKey) 6 24 Try.underlying22 hi hz0 hz1 hz2 rfl (by decide) u3 rs.length (flat rs) rfl (hown.alloc _) ⟨wr.heap.size, 0, none⟩ 1 1 (kc ⟨x1, x2, x3, x4, x5, x6⟩) rfl rfl (kcell_new wr ⟨x1, x2, x3, x4, x5, x6⟩ 32) (kc_one _) (by unfold maxLen; omega) (by omega) (by simp; omega) ?_; intro v3 w3 hown3 hgrow3 hnil3)
      go_roundw
      case rel => exact ⟨j + 1, by omega, by go_num, HST.out _ w3 v3 ((Below.refl _ _).alloc (Nat.le_refl _) _) hown3 hgrow3⟩
      case measure => simp [intOf]; omega
    · obtain rfl : j = ks.length := by omega
      obtain ⟨hkr, hbb⟩ := back_end hR
      have HKR := Lib.hid hkr
      have HBB := Lib.hid hbb
      clear hR hkr hbb
      go_wp2_with (first
        | (go_at_call 8; ((with_reducible refine (HN1.out _ HBB.out).mono ?_); rintro e w1 ⟨rfl, hb1⟩))
        | (go_at_call 8; ((with_reducible refine (HN2.out _ _ (HKR.out.below hb1 (Nat.le_refl _))).mono ?_); rintro e w2 ⟨rfl, hb2⟩))
        | (go_at_call 7; refine (HKN.out _).mono ?_; rintro e w' ⟨rfl, hb3⟩))
      go_ret
      have hB2 := below_add (below_add HBB.out hb1 HBB.out.size) hb2 (below_add HBB.out hb1 HBB.out.size).size
      exact ⟨rfl, below_add hB2 hb3 hB2.size⟩
/-- Two cells of the row, and what was there ahead. -/
def GrS (b o1 o2 : Nat) (x y : Int) (w0 : World) (w' : World) : Prop := w'.cell? ⟨b, o1, none⟩ = some (.int .i64 x) ∧ w'.cell? ⟨b, o2, none⟩ = some (.int .i64 y) ∧ Below w0.heap.size w0 w'
theorem GrS.below {b o1 o2 : Nat} {x y : Int} {w0 w w' : World} (h : GrS b o1 o2 x y w0 w) (hb : Below w.heap.size w w') : GrS b o1 o2 x y w0 w' := by
  obtain ⟨h1, h2, h3⟩ := h
  exact ⟨(hb.cell (p := ⟨b, o1, none⟩) (World.block_lt_of_cell? w _ h1)).trans h1, (hb.cell (p := ⟨b, o2, none⟩) (World.block_lt_of_cell? w _ h2)).trans h2, below_add h3 hb h3.size⟩
theorem grp_call {p : Value} {ks : List Key} {w0 : World} (hs : Sch w0 p ks) {b o1 o2 : Nat} {x y : Int} {z : Int} (hz : (Lit.int .i64 z).wf = true) (w1 : World) (hG : GrS b o1 o2 x y w0 w1) :
    Calls Try.prog 15 #[p, .int .i64 z] w1 fun e w' => ∃ v, e = .returned v ∧ Ints .i64 w' v (grpOf ks z) ∧ GrS b o1 o2 x y w0 w' :=
  (group_any p ks z w1 (hs.below hG.2.2 (Nat.le_refl _)) hz).mono fun e w' ⟨v, he, ho, hb⟩ => ⟨v, he, (Ints.of_owns ho).1, hG.below hb⟩
theorem has_call {v : Value} {xs : List Int} {y : Int} {B : Bool} (hB : hasB xs y = B) (w1 : World) (hv : Ints .i64 w1 v xs) :
    Calls Try.prog 19 #[v, .int .i64 y] w1 fun e w' => e = .returned (.bool B) ∧ w1 = w' := by
  subst hB
  exact has_any v xs y w1 hv

set_option maxRecDepth 100000 in
set_option maxHeartbeats 16000000 in
theorem groups_good (v : Value) (ks : List Key) (w : World) (hv : Krow w v ks) (hW : ∀ k ∈ ks, KeyW k) (hl : ks.length ≤ 64) (h0 : 0 < ks.length) (hm : mayKs ks) :
    Calls Try.prog 4 #[v] w fun e w' => e = .returned (.bool true) ∧ Below w.heap.size w w' := by
  have HKN := Lib.hid (fun w => skn_any w)
  obtain ⟨i0, hi, hz0, hz1, hz2⟩ := info_parts infoKey
  have HN1 := Lib.hid (fun W hb => new_yes (hv.below (w' := W) hb (Nat.le_refl _)) hW hm)
  have HN2 := Lib.hid (fun v2 W hv2 => new_yes (v := v2) (w := W) hv2 (keyW_reverse hW) ((mayKs_reverse ks).2 hm))
  obtain ⟨a, cap, rfl⟩ := hv.shape
  obtain ⟨b, off, rfl, -, -, -, hbl, hat⟩ := hv.opened h0
  have HAT := Lib.hid hat
  clear hv hat
  have d64 : decide ((64 : Int) < (ks.length : Int)) = false := by rw [decide_eq_false_iff_not]; omega
  go_enter Try.func4, Try.ntmps4
  go_wp2
  go_loopw [3, 19] (fun o i wr => ∃ j : Nat, j ≤ ks.length ∧ i = .int .i64 j ∧ BackRel w ks j o wr) (fun _ i _ => ks.length - (intOf i).toNat)
  case atStart => exact ⟨0, Nat.zero_le _, rfl, back_init w ks⟩
  case round =>
    obtain ⟨j, hj, rfl, hR⟩ := hrel
    by_cases hlt : j < ks.length
    · have hjj : ks.length - 1 - j < ks.length := by omega
      obtain ⟨c0, c1, c2, c3, c4, c5⟩ := (HAT.out _ hjj).below hR.2 hbl
      have hown := hR.1
      have hbs := hR.2.size
      have hlen : (ks.reverse.take j).length ≤ 64 := by rw [List.length_take, List.length_reverse]; omega
      have HST := Lib.hid (fun wx w3 v3 c hc hb h1 h2 => back_step (wx := wx) (w3 := w3) (v3 := v3) (c := c) hR hlt hc hb h1 h2)
      have HST := Lib.hid (fun wx w3 v3 => HST.out wx w3 v3 _ rfl)
      clear hR
      generalize ks[ks.length - 1 - j] = c at *
      obtain ⟨x1, x2, x3, x4, x5, x6⟩ := c
      simp only at c0 c1 c2 c3 c4 c5
      generalize ks.reverse.take j = rs at *
      have q1 : (ks.length : Int) - 1 - (j : Int) = ((ks.length - 1 - j : Nat) : Int) := by omega
      go_wp2_with (at_builtin; refine wpList_append_own _ rfl (.tmp 22) (.tmp 31) 22 rfl w.heap.size 32 i0 (kv noKey) 6 24 Try.underlying22 hi hz0 hz1 hz2 rfl (by decide) u3 rs.length (flat rs) rfl (hown.alloc _) ⟨wr.heap.size, 0, none⟩ 1 1 (kc ⟨x1, x2, x3, x4, x5, x6⟩) rfl rfl (kcell_new wr ⟨x1, x2, x3, x4, x5, x6⟩ 32) (kc_one _) (by unfold maxLen; omega) (by omega) (by simp; omega) ?_; intro v3 w3 hown3 hgrow3 hnil3)
      go_roundw
      case rel => exact ⟨j + 1, by omega, by go_num, HST.out _ w3 v3 ((Below.refl _ _).alloc (Nat.le_refl _) _) hown3 hgrow3⟩
      case measure => simp [intOf]; omega
    · obtain rfl : j = ks.length := by omega
      obtain ⟨hkr, hbb⟩ := back_end hR
      have HKR := Lib.hid hkr
      have HBB := Lib.hid hbb
      clear hR hkr hbb
      have hrl := rising_length hm.2
      have HRR := Lib.hid (rising_reverse hm.2)
      have HKS := Lib.hid (fun p W h => keys_any p ks W h)
      have HKT := Lib.hid (fun p W h => by have := keys_any p ks.reverse W h; rw [show KeysPost ks.reverse W = KeysPost ks W by unfold KeysPost; rw [rising_reverse hm.2]] at this; exact this)
      have HGD := Lib.hid hm.2
      generalize hrs : rising ks = rs at hrl
      have HRS := Lib.hid hrs
      clear hrs
      have hstr : rs.Pairwise (fun a b => a.id < b.id) := by rw [← HRS.out]; exact rising_strict ks
      have hmem : ∀ k, k ∈ rs → k ∈ ks := fun k hk => (rising_mem hm.2 k).1 (by rw [HRS.out]; exact hk)
      have hrs0 : 0 < rs.length := by omega
      have hrs64 : rs.length ≤ 64 := by omega
      have q2 : ((rs.length : Int) != (ks.length : Int)) = false := by rw [hrl]; simp
      have q3 : ((rs.length : Int) != (rs.length : Int)) = false := by simp
      go_wp2_with (first
        | (go_at_call 8; ((with_reducible refine (HN1.out _ HBB.out).mono ?_); rintro e w1 ⟨s, rfl, hs1, hb1⟩))
        | (go_at_call 8; ((with_reducible refine (HN2.out _ _ (HKR.out.below hb1 (Nat.le_refl _))).mono ?_); rintro e w2 ⟨s2, rfl, hs2, hb2⟩))
        | (go_at_call 12; ((with_reducible refine (HKS.out _ _ (hs1.below hb2 (Nat.le_refl _))).mono ?_); rintro e w3 ⟨lv, he, hown3, hb3⟩; rw [HRS.out] at hown3; obtain ⟨la, lcap, rfl⟩ := (Krow.of_owns hown3).1.shape; obtain ⟨b3, o3, rfl, -, -, -, hbl3, hat3⟩ := (Krow.of_owns hown3).1.opened hrs0; subst he))
        | (go_at_call 12; ((with_reducible refine (HKT.out _ _ (hs2.below hb3 (Nat.le_refl _))).mono ?_); rintro e w4 ⟨mv, he, hown4, hb4⟩; rw [HRS.out] at hown4; obtain ⟨ma, mcap, rfl⟩ := (Krow.of_owns hown4).1.shape; obtain ⟨b4, o4, rfl, -, -, -, hbl4, hat4⟩ := (Krow.of_owns hown4).1.opened hrs0; subst he)))
      have HA3 := Lib.hid (fun j (hj : j < rs.length) => (hat3 j hj).below hb4 hbl3)
      have HA4 := Lib.hid hat4
      have hbl3' : b3 < w4.heap.size := by have := hb4.size; omega
      have HS := Lib.hid (((hs1.below hb2 (Nat.le_refl _)).below hb3 (Nat.le_refl _)).below hb4 (Nat.le_refl _))
      have HB4 := Lib.hid (below_add (below_add (below_add (below_add HBB.out hb1 HBB.out.size) hb2 (below_add HBB.out hb1 HBB.out.size).size) hb3 (below_add (below_add HBB.out hb1 HBB.out.size) hb2 (below_add HBB.out hb1 HBB.out.size).size).size) hb4 (below_add (below_add (below_add HBB.out hb1 HBB.out.size) hb2 (below_add HBB.out hb1 HBB.out.size).size) hb3 (below_add (below_add HBB.out hb1 HBB.out.size) hb2 (below_add HBB.out hb1 HBB.out.size).size).size).size)
      have HSTR := Lib.hid hstr
      have HMEM := Lib.hid hmem
      have HRL := Lib.hid hrl
      clear hat3 hat4 hown3 hown4 hb1 hb2 hb3 hb4 hs1 hs2 hbl3 hstr hmem hrl HKT HKS HN1 HN2 HKR HBB HRR HAT hbl
      obtain ⟨wo, rfl⟩ : ∃ wo : World, wo = wr := ⟨_, rfl⟩
      have hn64 : ks.length ≤ 64 := hl
      generalize hnn : ks.length = n at *
      go_loopw [68] (fun i wr => ∃ j : Nat, j ≤ n ∧ i = .int .i64 j ∧ Below w4.heap.size w4 wr) (fun i _ => n - (intOf i).toNat)
      case atStart => exact ⟨0, Nat.zero_le _, rfl, Below.refl _ _⟩
      case round =>
        obtain ⟨j, hj, rfl, hE⟩ := hrel
        by_cases hlt : j < n
        · have hjr : j < rs.length := by have := HRL.out; omega
          have hoK : rs[j] ∈ ks := HMEM.out _ (List.getElem_mem hjr)
          have hid : (Lit.int .i64 rs[j].id).wf = true := (hW _ hoK).id
          go_upto_region 22 with fail
          go_cut [97] from 69 to 151 (fun s97 wx => s97 = .bool false ∧ Below w4.heap.size w4 wx)
          case first =>
            obtain ⟨c0, c1, c2, c3, c4, c5⟩ := (HA3.out j hjr).below hE hbl3'
            obtain ⟨d0, d1, d2, d3, d4, d5⟩ := (HA4.out j hjr).below hE hbl4
            have hq := fun w => key_neq rs[j] rs[j] w
            simp only [keq_self, Bool.not_true] at hq
            by_cases hj0 : j = 0
            · have q4 : decide ((0 : Int) < (j : Int)) = false := by rw [decide_eq_false_iff_not]; omega
              have q7 : decide (0 < j) = false := by rw [decide_eq_false_iff_not]; omega
              clear hj0
              generalize rs[j] = o at *
              obtain ⟨x1, x2, x3, x4, x5, x6⟩ := o
              simp only at c0 c1 c2 c3 c4 c5 d0 d1 d2 d3 d4 d5 hq
              go_quiet (fail)
              go_wp2_with fail
              go_meet
              first | exact ⟨rfl, blw_drewN hE nq⟩ | (case rel => exact ⟨rfl, blw_drewN hE nq⟩)
            · have q4 : decide ((0 : Int) < (j : Int)) = true := by rw [decide_eq_true_iff]; omega
              have q7 : decide (0 < j) = true := by rw [decide_eq_true_iff]; omega
              have q8 : 0 < j := by omega
              have hpr : j - 1 < rs.length := by omega
              have e0 := ((HA3.out (j - 1) hpr).below hE hbl3').1
              have hlt2 := List.pairwise_iff_getElem.1 HSTR.out (j - 1) j hpr hjr (by omega)
              have q5 : decide (rs[j].id ≤ rs[j - 1].id) = false := by rw [decide_eq_false_iff_not]; omega
              have q6 : (j : Int) - 1 = ((j - 1 : Nat) : Int) := by omega
              clear hlt2 hj0
              generalize rs[j - 1] = o2 at *
              generalize rs[j] = o at *
              obtain ⟨x1, x2, x3, x4, x5, x6⟩ := o
              obtain ⟨y1, y2, y3, y4, y5, y6⟩ := o2
              simp only at c0 c1 c2 c3 c4 c5 d0 d1 d2 d3 d4 d5 e0 hq q5
              go_quiet (fail)
              go_wp2_with fail
              go_meet
              first | exact ⟨rfl, blw_drewN hE nq⟩ | (case rel => exact ⟨rfl, blw_drewN hE nq⟩)
          case rest =>
            obtain ⟨rfl, hQ⟩ := hcut
            clear hE
            go_wp2
            have HQ := Lib.hid hQ
            clear hQ
            obtain ⟨wq, rfl⟩ : ∃ wq : World, wq = wc := ⟨_, rfl⟩
            go_loopw [100] (fun i wr => ∃ k : Nat, k ≤ n ∧ i = .int .i64 k ∧ Below w4.heap.size w4 wr) (fun i _ => n - (intOf i).toNat)
            case atStart => exact ⟨0, Nat.zero_le _, rfl, HQ.out⟩
            case round =>
              obtain ⟨k, hk, rfl, hE⟩ := hrel
              by_cases hkn : k < n
              · go_upto_region 27 with fail
                go_cut [149] from 101 to 150 (fun s149 wx => s149 = .bool false ∧ Below w4.heap.size w4 wx)
                case first =>
                  have hkr : k < rs.length := by have := HRL.out; omega
                  have a1 := ((HA3.out j hjr).below hE hbl3').1
                  have a2 := ((HA3.out k hkr).below hE hbl3').1
                  by_cases hjk : j = k
                  · subst hjk
                    have hG0 : GrS b3 (o3 + j * 6) (o3 + j * 6) rs[j].id rs[j].id w4 wr.drew := GrS.below ⟨a1, a1, hE⟩ ((Below.refl _ _).drew)
                    have hB1 := groups_own HGD.out hoK
                    have hB2 := hB1
                    have r1 : ((j : Int) == (j : Int)) = true := by simp
                    generalize rs[j].id = x1 at *
                    have HB1 := Lib.hid hB1
                    have HB2 := Lib.hid hB2
                    clear hB1 hB2 a1 a2 HA3 HA4 HGD HMEM HSTR HRL HKN HRS HQ HB4 hoK hE
                    refine h_start (S := GrS b3 (o3 + j * 6) (o3 + j * 6) x1 x1 w4) (by kernel_rfl) ?_
                    refine h_val (i := 0) (v := ?_) rfl (by kernel_rfl) (by kernel_rfl) (by kernel_rfl) (fun _ _ _ h => h) (by rfl) (fun w hS => ?_) hG0 ?_
                    rotate_left
                    · obtain ⟨s1, s2, -⟩ := hS
                      go_simp
                      try with_reducible rfl
                    go_frame
                    refine h_val (i := 1) (v := ?_) rfl (by kernel_rfl) (by kernel_rfl) (by kernel_rfl) (fun _ _ _ h => h) (by rfl) (fun w hS => ?_) hG0 ?_
                    rotate_left
                    · obtain ⟨s1, s2, -⟩ := hS
                      go_simp
                      try with_reducible rfl
                    go_frame
                    refine h_val (i := 2) (v := ?_) rfl (by kernel_rfl) (by kernel_rfl) (by kernel_rfl) (fun _ _ _ h => h) (by rfl) (fun w hS => ?_) hG0 ?_
                    rotate_left
                    · obtain ⟨s1, s2, -⟩ := hS
                      go_simp
                      try with_reducible rfl
                    go_frame
                    refine h_val (i := 3) (v := ?_) rfl (by kernel_rfl) (by kernel_rfl) (by kernel_rfl) (fun _ _ _ h => h) (by rfl) (fun w hS => ?_) hG0 ?_
                    rotate_left
                    · obtain ⟨s1, s2, -⟩ := hS
                      go_simp
                      try with_reducible rfl
                    go_frame
                    refine h_val (i := 4) (v := ?_) rfl (by kernel_rfl) (by kernel_rfl) (by kernel_rfl) (fun _ _ _ h => h) (by rfl) (fun w hS => ?_) hG0 ?_
                    rotate_left
                    · obtain ⟨s1, s2, -⟩ := hS
                      go_simp
                      try with_reducible rfl
                    go_frame
                    refine h_val (i := 5) (v := ?_) rfl (by kernel_rfl) (by kernel_rfl) (by kernel_rfl) (fun _ _ _ h => h) (by rfl) (fun w hS => ?_) hG0 ?_
                    rotate_left
                    · obtain ⟨s1, s2, -⟩ := hS
                      go_simp
                      try with_reducible rfl
                    go_frame
                    refine h_val (i := 7) (v := ?_) rfl (by kernel_rfl) (by kernel_rfl) (by kernel_rfl) (fun _ _ _ h => h) (by rfl) (fun w hS => ?_) hG0 ?_
                    rotate_left
                    · obtain ⟨s1, s2, -⟩ := hS
                      go_simp
                      try with_reducible rfl
                    go_frame
                    refine h_val (i := 8) (v := ?_) rfl (by kernel_rfl) (by kernel_rfl) (by kernel_rfl) (fun _ _ _ h => h) (by rfl) (fun w hS => ?_) hG0 ?_
                    rotate_left
                    · obtain ⟨s1, s2, -⟩ := hS
                      go_simp
                      try with_reducible rfl
                    go_frame
                    refine h_val (i := 9) (v := ?_) rfl (by kernel_rfl) (by kernel_rfl) (by kernel_rfl) (fun _ _ _ h => h) (by rfl) (fun w hS => ?_) hG0 ?_
                    rotate_left
                    · obtain ⟨s1, s2, -⟩ := hS
                      go_simp
                      try with_reducible rfl
                    go_frame
                    refine h_val (i := 10) (v := ?_) rfl (by kernel_rfl) (by kernel_rfl) (by kernel_rfl) (fun _ _ _ h => h) (by rfl) (fun w hS => ?_) hG0 ?_
                    rotate_left
                    · obtain ⟨s1, s2, -⟩ := hS
                      go_simp
                      try with_reducible rfl
                    go_frame
                    refine h_val (i := 11) (v := ?_) rfl (by kernel_rfl) (by kernel_rfl) (by kernel_rfl) (fun _ _ _ h => h) (by rfl) (fun w hS => ?_) hG0 ?_
                    rotate_left
                    · obtain ⟨s1, s2, -⟩ := hS
                      go_simp
                      try with_reducible rfl
                    go_frame
                    refine h_val (i := 13) (v := ?_) rfl (by kernel_rfl) (by kernel_rfl) (by kernel_rfl) (fun _ _ _ h => h) (by rfl) (fun w hS => ?_) hG0 ?_
                    rotate_left
                    · obtain ⟨s1, s2, -⟩ := hS
                      go_simp
                      try with_reducible rfl
                    go_frame
                    refine h_val (i := 14) (v := ?_) rfl (by kernel_rfl) (by kernel_rfl) (by kernel_rfl) (fun _ _ _ h => h) (by rfl) (fun w hS => ?_) hG0 ?_
                    rotate_left
                    · obtain ⟨s1, s2, -⟩ := hS
                      go_simp
                      try with_reducible rfl
                    go_frame
                    refine h_val (i := 15) (v := ?_) rfl (by kernel_rfl) (by kernel_rfl) (by kernel_rfl) (fun _ _ _ h => h) (by rfl) (fun w hS => ?_) hG0 ?_
                    rotate_left
                    · obtain ⟨s1, s2, -⟩ := hS
                      go_simp
                      try with_reducible rfl
                    go_frame
                    refine h_val (i := 16) (v := ?_) rfl (by kernel_rfl) (by kernel_rfl) (by kernel_rfl) (fun _ _ _ h => h) (by rfl) (fun w hS => ?_) hG0 ?_
                    rotate_left
                    · obtain ⟨s1, s2, -⟩ := hS
                      go_simp
                      try with_reducible rfl
                    go_frame
                    refine h_val (i := 17) (v := ?_) rfl (by kernel_rfl) (by kernel_rfl) (by kernel_rfl) (fun _ _ _ h => h) (by rfl) (fun w hS => ?_) hG0 ?_
                    rotate_left
                    · obtain ⟨s1, s2, -⟩ := hS
                      go_simp
                      try with_reducible rfl
                    go_frame
                    refine h_val (i := 18) (v := ?_) rfl (by kernel_rfl) (by kernel_rfl) (by kernel_rfl) (fun _ _ _ h => h) (by rfl) (fun w hS => ?_) hG0 ?_
                    rotate_left
                    · obtain ⟨s1, s2, -⟩ := hS
                      go_simp
                      try with_reducible rfl
                    go_frame
                    refine h_val (i := 20) (v := ?_) rfl (by kernel_rfl) (by kernel_rfl) (by kernel_rfl) (fun _ _ _ h => h) (by rfl) (fun w hS => ?_) hG0 ?_
                    rotate_left
                    · obtain ⟨s1, s2, -⟩ := hS
                      go_simp
                      try with_reducible rfl
                    go_frame
                    refine h_val (i := 21) (v := ?_) rfl (by kernel_rfl) (by kernel_rfl) (by kernel_rfl) (fun _ _ _ h => h) (by rfl) (fun w hS => ?_) hG0 ?_
                    rotate_left
                    · obtain ⟨s1, s2, -⟩ := hS
                      go_simp
                      try with_reducible rfl
                    go_frame
                    refine h_val (i := 22) (v := ?_) rfl (by kernel_rfl) (by kernel_rfl) (by kernel_rfl) (fun _ _ _ h => h) (by rfl) (fun w hS => ?_) hG0 ?_
                    rotate_left
                    · obtain ⟨s1, s2, -⟩ := hS
                      go_simp
                      try with_reducible rfl
                    go_frame
                    refine h_val (i := 23) (v := ?_) rfl (by kernel_rfl) (by kernel_rfl) (by kernel_rfl) (fun _ _ _ h => h) (by rfl) (fun w hS => ?_) hG0 ?_
                    rotate_left
                    · obtain ⟨s1, s2, -⟩ := hS
                      go_simp
                      try with_reducible rfl
                    go_frame
                    refine h_val (i := 24) (v := ?_) rfl (by kernel_rfl) (by kernel_rfl) (by kernel_rfl) (fun _ _ _ h => h) (by rfl) (fun w hS => ?_) hG0 ?_
                    rotate_left
                    · obtain ⟨s1, s2, -⟩ := hS
                      go_simp
                      try with_reducible rfl
                    go_frame
                    refine h_call (i := 6) (f := 15) (args := #[.pointer (some s), .int .i64 x1]) rfl (by kernel_rfl) (by rfl) (by go_simp) ?_
                    refine (grp_call HS.out hid _ hG0).mono ?_
                    rintro e w5 ⟨v5, rfl, hI5, hG5⟩
                    refine ⟨v5, rfl, hG5, ?_⟩
                    go_frame
                    refine h_call (i := 12) (f := 19) (args := #[v5, .int .i64 x1]) rfl (by kernel_rfl) (by rfl) (by go_simp) ?_
                    refine (has_call HB1.out _ hI5).mono ?_
                    rintro e w' ⟨rfl, rfl⟩
                    refine ⟨_, rfl, hG5, ?_⟩
                    go_frame
                    refine h_call (i := 19) (f := 15) (args := #[.pointer (some s), .int .i64 x1]) rfl (by kernel_rfl) (by rfl) (by go_simp) ?_
                    refine (grp_call HS.out hid _ hG5).mono ?_
                    rintro e w6 ⟨v6, rfl, hI6, hG6⟩
                    refine ⟨v6, rfl, hG6, ?_⟩
                    go_frame
                    refine h_call (i := 25) (f := 19) (args := #[v6, .int .i64 x1]) rfl (by kernel_rfl) (by rfl) (by go_simp) ?_
                    refine (has_call HB2.out _ hI6).mono ?_
                    rintro e w' ⟨rfl, rfl⟩
                    refine ⟨_, rfl, hG6, ?_⟩
                    go_frame
                    clear hI5 hI6
                    have hbn := fun w => run_neq_bool (P := Try.prog) (w := w) 4 false false Try.underlying4
                    simp only [beq_self_eq_true, Bool.not_true] at hbn
                    refine h_val (i := 26) (v := .bool false) rfl (by kernel_rfl) (by kernel_rfl) (by kernel_rfl) (fun _ _ _ h => h) (by rfl) (fun w hS => ?_) hG6 ?_
                    · obtain ⟨s1, s2, -⟩ := hS
                      clear hG6
                      go_simp
                    go_frame
                    refine h_val (i := 27) (v := .bool false) rfl (by kernel_rfl) (by kernel_rfl) (by kernel_rfl) (fun _ _ _ h => h) (by rfl) (fun w hS => ?_) hG6 ?_
                    · obtain ⟨s1, s2, -⟩ := hS
                      clear hG6
                      go_simp
                    go_frame
                    refine h_val (i := 28) (v := .int .i64 j) rfl (by kernel_rfl) (by kernel_rfl) (by kernel_rfl) (fun _ _ _ h => h) (by rfl) (fun w hS => ?_) hG6 ?_
                    · obtain ⟨s1, s2, -⟩ := hS
                      clear hG6
                      go_simp
                    go_frame
                    refine h_val (i := 29) (v := .int .i64 j) rfl (by kernel_rfl) (by kernel_rfl) (by kernel_rfl) (fun _ _ _ h => h) (by rfl) (fun w hS => ?_) hG6 ?_
                    · obtain ⟨s1, s2, -⟩ := hS
                      clear hG6
                      go_simp
                    go_frame
                    refine h_val (i := 30) (v := .bool true) rfl (by kernel_rfl) (by kernel_rfl) (by kernel_rfl) (fun _ _ _ h => h) (by rfl) (fun w hS => ?_) hG6 ?_
                    · obtain ⟨s1, s2, -⟩ := hS
                      clear hG6
                      go_simp
                    go_frame
                    refine h_val (i := 31) (v := .bool true) rfl (by kernel_rfl) (by kernel_rfl) (by kernel_rfl) (fun _ _ _ h => h) (by rfl) (fun w hS => ?_) hG6 ?_
                    · obtain ⟨s1, s2, -⟩ := hS
                      clear hG6
                      go_simp
                    go_frame
                    refine h_val (i := 32) (v := ?_) rfl (by kernel_rfl) (by kernel_rfl) (by kernel_rfl) (fun _ _ _ h => h) (by rfl) (fun w hS => ?_) hG6 ?_
                    rotate_left
                    · obtain ⟨s1, s2, -⟩ := hS
                      go_simp
                      try with_reducible rfl
                    go_frame
                    refine h_val (i := 33) (v := ?_) rfl (by kernel_rfl) (by kernel_rfl) (by kernel_rfl) (fun _ _ _ h => h) (by rfl) (fun w hS => ?_) hG6 ?_
                    rotate_left
                    · obtain ⟨s1, s2, -⟩ := hS
                      go_simp
                      try with_reducible rfl
                    go_frame
                    refine h_val (i := 34) (v := ?_) rfl (by kernel_rfl) (by kernel_rfl) (by kernel_rfl) (fun _ _ _ h => h) (by rfl) (fun w hS => ?_) hG6 ?_
                    rotate_left
                    · obtain ⟨s1, s2, -⟩ := hS
                      go_simp
                      try with_reducible rfl
                    go_frame
                    refine h_val (i := 35) (v := ?_) rfl (by kernel_rfl) (by kernel_rfl) (by kernel_rfl) (fun _ _ _ h => h) (by rfl) (fun w hS => ?_) hG6 ?_
                    rotate_left
                    · obtain ⟨s1, s2, -⟩ := hS
                      go_simp
                      try with_reducible rfl
                    go_frame
                    refine h_val (i := 36) (v := ?_) rfl (by kernel_rfl) (by kernel_rfl) (by kernel_rfl) (fun _ _ _ h => h) (by rfl) (fun w hS => ?_) hG6 ?_
                    rotate_left
                    · obtain ⟨s1, s2, -⟩ := hS
                      go_simp
                      try with_reducible rfl
                    go_frame
                    refine h_val (i := 37) (v := ?_) rfl (by kernel_rfl) (by kernel_rfl) (by kernel_rfl) (fun _ _ _ h => h) (by rfl) (fun w hS => ?_) hG6 ?_
                    rotate_left
                    · obtain ⟨s1, s2, -⟩ := hS
                      go_simp
                      try with_reducible rfl
                    go_frame
                    refine h_val (i := 39) (v := ?_) rfl (by kernel_rfl) (by kernel_rfl) (by kernel_rfl) (fun _ _ _ h => h) (by rfl) (fun w hS => ?_) hG6 ?_
                    rotate_left
                    · obtain ⟨s1, s2, -⟩ := hS
                      go_simp
                      try with_reducible rfl
                    go_frame
                    refine h_val (i := 40) (v := ?_) rfl (by kernel_rfl) (by kernel_rfl) (by kernel_rfl) (fun _ _ _ h => h) (by rfl) (fun w hS => ?_) hG6 ?_
                    rotate_left
                    · obtain ⟨s1, s2, -⟩ := hS
                      go_simp
                      try with_reducible rfl
                    go_frame
                    refine h_val (i := 41) (v := ?_) rfl (by kernel_rfl) (by kernel_rfl) (by kernel_rfl) (fun _ _ _ h => h) (by rfl) (fun w hS => ?_) hG6 ?_
                    rotate_left
                    · obtain ⟨s1, s2, -⟩ := hS
                      go_simp
                      try with_reducible rfl
                    go_frame
                    refine h_val (i := 42) (v := ?_) rfl (by kernel_rfl) (by kernel_rfl) (by kernel_rfl) (fun _ _ _ h => h) (by rfl) (fun w hS => ?_) hG6 ?_
                    rotate_left
                    · obtain ⟨s1, s2, -⟩ := hS
                      go_simp
                      try with_reducible rfl
                    go_frame
                    refine h_val (i := 43) (v := ?_) rfl (by kernel_rfl) (by kernel_rfl) (by kernel_rfl) (fun _ _ _ h => h) (by rfl) (fun w hS => ?_) hG6 ?_
                    rotate_left
                    · obtain ⟨s1, s2, -⟩ := hS
                      go_simp
                      try with_reducible rfl
                    go_frame
                    refine h_call (i := 38) (f := 15) (args := #[.pointer (some s), .int .i64 x1]) rfl (by kernel_rfl) (by rfl) (by go_simp) ?_
                    refine (grp_call HS.out hid _ hG6).mono ?_
                    rintro e w7 ⟨v7, rfl, hI7, hG7⟩
                    refine ⟨v7, rfl, hG7, ?_⟩
                    go_frame
                    refine h_call (i := 44) (f := 19) (args := #[v7, .int .i64 x1]) rfl (by kernel_rfl) (by rfl) (by go_simp) ?_
                    refine (has_call HB1.out _ hI7).mono ?_
                    rintro e w' ⟨rfl, rfl⟩
                    refine ⟨_, rfl, hG7, ?_⟩
                    go_frame
                    refine h_val (i := 45) (v := .bool false) rfl (by kernel_rfl) (by kernel_rfl) (by kernel_rfl) (fun _ _ _ h => h) (by rfl) (fun w hS => ?_) hG7 ?_
                    · obtain ⟨s1, s2, -⟩ := hS
                      clear hG7
                      go_simp
                    go_frame
                    refine h_val (i := 46) (v := .bool false) rfl (by kernel_rfl) (by kernel_rfl) (by kernel_rfl) (fun _ _ _ h => h) (by rfl) (fun w hS => ?_) hG7 ?_
                    · obtain ⟨s1, s2, -⟩ := hS
                      clear hG7
                      go_simp
                    go_frame
                    refine h_done (by kernel_rfl) ?_
                    go_wp2_with fail
                    go_meet
                    first | exact ⟨rfl, hG7.2.2⟩ | (case rel => exact ⟨rfl, hG7.2.2⟩)
                  · have hyK := HMEM.out _ (List.getElem_mem hkr)
                    have hwy : (Lit.int .i64 rs[k].id).wf = true := (hW _ hyK).id
                    have hBe := groups_both HGD.out hoK hyK
                    have hG0 : GrS b3 (o3 + j * 6) (o3 + k * 6) rs[j].id rs[k].id w4 wr.drew := GrS.below ⟨a1, a2, hE⟩ ((Below.refl _ _).drew)
                    have r1 : ((j : Int) == (k : Int)) = false := by rw [beq_eq_false_iff_ne]; omega
                    generalize rs[k].id = y at *
                    generalize rs[j].id = x1 at *
                    generalize hB1 : hasB (grpOf ks x1) y = B at hBe
                    have hB2 := hBe.symm
                    have HB1 := Lib.hid hB1
                    have HB2 := Lib.hid hB2
                    clear hB1 hB2 a1 a2 hBe hyK HA3 HA4 HGD HMEM HSTR HRL HKN HRS HQ HB4 hoK hE
                    refine h_start (S := GrS b3 (o3 + j * 6) (o3 + k * 6) x1 y w4) (by kernel_rfl) ?_
                    refine h_val (i := 0) (v := ?_) rfl (by kernel_rfl) (by kernel_rfl) (by kernel_rfl) (fun _ _ _ h => h) (by rfl) (fun w hS => ?_) hG0 ?_
                    rotate_left
                    · obtain ⟨s1, s2, -⟩ := hS
                      go_simp
                      try with_reducible rfl
                    go_frame
                    refine h_val (i := 1) (v := ?_) rfl (by kernel_rfl) (by kernel_rfl) (by kernel_rfl) (fun _ _ _ h => h) (by rfl) (fun w hS => ?_) hG0 ?_
                    rotate_left
                    · obtain ⟨s1, s2, -⟩ := hS
                      go_simp
                      try with_reducible rfl
                    go_frame
                    refine h_val (i := 2) (v := ?_) rfl (by kernel_rfl) (by kernel_rfl) (by kernel_rfl) (fun _ _ _ h => h) (by rfl) (fun w hS => ?_) hG0 ?_
                    rotate_left
                    · obtain ⟨s1, s2, -⟩ := hS
                      go_simp
                      try with_reducible rfl
                    go_frame
                    refine h_val (i := 3) (v := ?_) rfl (by kernel_rfl) (by kernel_rfl) (by kernel_rfl) (fun _ _ _ h => h) (by rfl) (fun w hS => ?_) hG0 ?_
                    rotate_left
                    · obtain ⟨s1, s2, -⟩ := hS
                      go_simp
                      try with_reducible rfl
                    go_frame
                    refine h_val (i := 4) (v := ?_) rfl (by kernel_rfl) (by kernel_rfl) (by kernel_rfl) (fun _ _ _ h => h) (by rfl) (fun w hS => ?_) hG0 ?_
                    rotate_left
                    · obtain ⟨s1, s2, -⟩ := hS
                      go_simp
                      try with_reducible rfl
                    go_frame
                    refine h_val (i := 5) (v := ?_) rfl (by kernel_rfl) (by kernel_rfl) (by kernel_rfl) (fun _ _ _ h => h) (by rfl) (fun w hS => ?_) hG0 ?_
                    rotate_left
                    · obtain ⟨s1, s2, -⟩ := hS
                      go_simp
                      try with_reducible rfl
                    go_frame
                    refine h_val (i := 7) (v := ?_) rfl (by kernel_rfl) (by kernel_rfl) (by kernel_rfl) (fun _ _ _ h => h) (by rfl) (fun w hS => ?_) hG0 ?_
                    rotate_left
                    · obtain ⟨s1, s2, -⟩ := hS
                      go_simp
                      try with_reducible rfl
                    go_frame
                    refine h_val (i := 8) (v := ?_) rfl (by kernel_rfl) (by kernel_rfl) (by kernel_rfl) (fun _ _ _ h => h) (by rfl) (fun w hS => ?_) hG0 ?_
                    rotate_left
                    · obtain ⟨s1, s2, -⟩ := hS
                      go_simp
                      try with_reducible rfl
                    go_frame
                    refine h_val (i := 9) (v := ?_) rfl (by kernel_rfl) (by kernel_rfl) (by kernel_rfl) (fun _ _ _ h => h) (by rfl) (fun w hS => ?_) hG0 ?_
                    rotate_left
                    · obtain ⟨s1, s2, -⟩ := hS
                      go_simp
                      try with_reducible rfl
                    go_frame
                    refine h_val (i := 10) (v := ?_) rfl (by kernel_rfl) (by kernel_rfl) (by kernel_rfl) (fun _ _ _ h => h) (by rfl) (fun w hS => ?_) hG0 ?_
                    rotate_left
                    · obtain ⟨s1, s2, -⟩ := hS
                      go_simp
                      try with_reducible rfl
                    go_frame
                    refine h_val (i := 11) (v := ?_) rfl (by kernel_rfl) (by kernel_rfl) (by kernel_rfl) (fun _ _ _ h => h) (by rfl) (fun w hS => ?_) hG0 ?_
                    rotate_left
                    · obtain ⟨s1, s2, -⟩ := hS
                      go_simp
                      try with_reducible rfl
                    go_frame
                    refine h_val (i := 13) (v := ?_) rfl (by kernel_rfl) (by kernel_rfl) (by kernel_rfl) (fun _ _ _ h => h) (by rfl) (fun w hS => ?_) hG0 ?_
                    rotate_left
                    · obtain ⟨s1, s2, -⟩ := hS
                      go_simp
                      try with_reducible rfl
                    go_frame
                    refine h_val (i := 14) (v := ?_) rfl (by kernel_rfl) (by kernel_rfl) (by kernel_rfl) (fun _ _ _ h => h) (by rfl) (fun w hS => ?_) hG0 ?_
                    rotate_left
                    · obtain ⟨s1, s2, -⟩ := hS
                      go_simp
                      try with_reducible rfl
                    go_frame
                    refine h_val (i := 15) (v := ?_) rfl (by kernel_rfl) (by kernel_rfl) (by kernel_rfl) (fun _ _ _ h => h) (by rfl) (fun w hS => ?_) hG0 ?_
                    rotate_left
                    · obtain ⟨s1, s2, -⟩ := hS
                      go_simp
                      try with_reducible rfl
                    go_frame
                    refine h_val (i := 16) (v := ?_) rfl (by kernel_rfl) (by kernel_rfl) (by kernel_rfl) (fun _ _ _ h => h) (by rfl) (fun w hS => ?_) hG0 ?_
                    rotate_left
                    · obtain ⟨s1, s2, -⟩ := hS
                      go_simp
                      try with_reducible rfl
                    go_frame
                    refine h_val (i := 17) (v := ?_) rfl (by kernel_rfl) (by kernel_rfl) (by kernel_rfl) (fun _ _ _ h => h) (by rfl) (fun w hS => ?_) hG0 ?_
                    rotate_left
                    · obtain ⟨s1, s2, -⟩ := hS
                      go_simp
                      try with_reducible rfl
                    go_frame
                    refine h_val (i := 18) (v := ?_) rfl (by kernel_rfl) (by kernel_rfl) (by kernel_rfl) (fun _ _ _ h => h) (by rfl) (fun w hS => ?_) hG0 ?_
                    rotate_left
                    · obtain ⟨s1, s2, -⟩ := hS
                      go_simp
                      try with_reducible rfl
                    go_frame
                    refine h_val (i := 20) (v := ?_) rfl (by kernel_rfl) (by kernel_rfl) (by kernel_rfl) (fun _ _ _ h => h) (by rfl) (fun w hS => ?_) hG0 ?_
                    rotate_left
                    · obtain ⟨s1, s2, -⟩ := hS
                      go_simp
                      try with_reducible rfl
                    go_frame
                    refine h_val (i := 21) (v := ?_) rfl (by kernel_rfl) (by kernel_rfl) (by kernel_rfl) (fun _ _ _ h => h) (by rfl) (fun w hS => ?_) hG0 ?_
                    rotate_left
                    · obtain ⟨s1, s2, -⟩ := hS
                      go_simp
                      try with_reducible rfl
                    go_frame
                    refine h_val (i := 22) (v := ?_) rfl (by kernel_rfl) (by kernel_rfl) (by kernel_rfl) (fun _ _ _ h => h) (by rfl) (fun w hS => ?_) hG0 ?_
                    rotate_left
                    · obtain ⟨s1, s2, -⟩ := hS
                      go_simp
                      try with_reducible rfl
                    go_frame
                    refine h_val (i := 23) (v := ?_) rfl (by kernel_rfl) (by kernel_rfl) (by kernel_rfl) (fun _ _ _ h => h) (by rfl) (fun w hS => ?_) hG0 ?_
                    rotate_left
                    · obtain ⟨s1, s2, -⟩ := hS
                      go_simp
                      try with_reducible rfl
                    go_frame
                    refine h_val (i := 24) (v := ?_) rfl (by kernel_rfl) (by kernel_rfl) (by kernel_rfl) (fun _ _ _ h => h) (by rfl) (fun w hS => ?_) hG0 ?_
                    rotate_left
                    · obtain ⟨s1, s2, -⟩ := hS
                      go_simp
                      try with_reducible rfl
                    go_frame
                    refine h_call (i := 6) (f := 15) (args := #[.pointer (some s), .int .i64 x1]) rfl (by kernel_rfl) (by rfl) (by go_simp) ?_
                    refine (grp_call HS.out hid _ hG0).mono ?_
                    rintro e w5 ⟨v5, rfl, hI5, hG5⟩
                    refine ⟨v5, rfl, hG5, ?_⟩
                    go_frame
                    refine h_call (i := 12) (f := 19) (args := #[v5, .int .i64 y]) rfl (by kernel_rfl) (by rfl) (by go_simp) ?_
                    refine (has_call HB1.out _ hI5).mono ?_
                    rintro e w' ⟨rfl, rfl⟩
                    refine ⟨_, rfl, hG5, ?_⟩
                    go_frame
                    refine h_call (i := 19) (f := 15) (args := #[.pointer (some s), .int .i64 y]) rfl (by kernel_rfl) (by rfl) (by go_simp) ?_
                    refine (grp_call HS.out hwy _ hG5).mono ?_
                    rintro e w6 ⟨v6, rfl, hI6, hG6⟩
                    refine ⟨v6, rfl, hG6, ?_⟩
                    go_frame
                    refine h_call (i := 25) (f := 19) (args := #[v6, .int .i64 x1]) rfl (by kernel_rfl) (by rfl) (by go_simp) ?_
                    refine (has_call HB2.out _ hI6).mono ?_
                    rintro e w' ⟨rfl, rfl⟩
                    refine ⟨_, rfl, hG6, ?_⟩
                    go_frame
                    clear HB1 HB2 hI5 hI6 HS hid hwy
                    have hbn := fun w => run_neq_bool (P := Try.prog) (w := w) 4 B B Try.underlying4
                    simp only [beq_self_eq_true, Bool.not_true] at hbn
                    refine h_val (i := 26) (v := .bool false) rfl (by kernel_rfl) (by kernel_rfl) (by kernel_rfl) (fun _ _ _ h => h) (by rfl) (fun w hS => ?_) hG6 ?_
                    · obtain ⟨s1, s2, -⟩ := hS
                      clear hG6
                      go_simp
                    go_frame
                    refine h_val (i := 27) (v := .bool false) rfl (by kernel_rfl) (by kernel_rfl) (by kernel_rfl) (fun _ _ _ h => h) (by rfl) (fun w hS => ?_) hG6 ?_
                    · obtain ⟨s1, s2, -⟩ := hS
                      clear hG6
                      go_simp
                    go_frame
                    refine h_val (i := 28) (v := .int .i64 j) rfl (by kernel_rfl) (by kernel_rfl) (by kernel_rfl) (fun _ _ _ h => h) (by rfl) (fun w hS => ?_) hG6 ?_
                    · obtain ⟨s1, s2, -⟩ := hS
                      clear hG6
                      go_simp
                    go_frame
                    refine h_val (i := 29) (v := .int .i64 k) rfl (by kernel_rfl) (by kernel_rfl) (by kernel_rfl) (fun _ _ _ h => h) (by rfl) (fun w hS => ?_) hG6 ?_
                    · obtain ⟨s1, s2, -⟩ := hS
                      clear hG6
                      go_simp
                    go_frame
                    refine h_val (i := 30) (v := .bool false) rfl (by kernel_rfl) (by kernel_rfl) (by kernel_rfl) (fun _ _ _ h => h) (by rfl) (fun w hS => ?_) hG6 ?_
                    · obtain ⟨s1, s2, -⟩ := hS
                      clear hG6
                      go_simp
                    go_frame
                    refine h_val (i := 31) (v := .bool false) rfl (by kernel_rfl) (by kernel_rfl) (by kernel_rfl) (fun _ _ _ h => h) (by rfl) (fun w hS => ?_) hG6 ?_
                    · obtain ⟨s1, s2, -⟩ := hS
                      clear hG6
                      go_simp
                    go_frame
                    refine h_skip (i := 32) rfl (by kernel_rfl) (by kernel_rfl) (by kernel_rfl) (fun _ _ _ h => h) (by rfl) hG6 ?_
                    go_frame
                    refine h_skip (i := 33) rfl (by kernel_rfl) (by kernel_rfl) (by kernel_rfl) (fun _ _ _ h => h) (by rfl) hG6 ?_
                    go_frame
                    refine h_skip (i := 34) rfl (by kernel_rfl) (by kernel_rfl) (by kernel_rfl) (fun _ _ _ h => h) (by rfl) hG6 ?_
                    go_frame
                    refine h_skip (i := 35) rfl (by kernel_rfl) (by kernel_rfl) (by kernel_rfl) (fun _ _ _ h => h) (by rfl) hG6 ?_
                    go_frame
                    refine h_skip (i := 36) rfl (by kernel_rfl) (by kernel_rfl) (by kernel_rfl) (fun _ _ _ h => h) (by rfl) hG6 ?_
                    go_frame
                    refine h_skip (i := 37) rfl (by kernel_rfl) (by kernel_rfl) (by kernel_rfl) (fun _ _ _ h => h) (by rfl) hG6 ?_
                    go_frame
                    refine h_skip (i := 38) rfl (by kernel_rfl) (by kernel_rfl) (by kernel_rfl) (fun _ _ _ h => h) (by rfl) hG6 ?_
                    go_frame
                    refine h_skip (i := 39) rfl (by kernel_rfl) (by kernel_rfl) (by kernel_rfl) (fun _ _ _ h => h) (by rfl) hG6 ?_
                    go_frame
                    refine h_skip (i := 40) rfl (by kernel_rfl) (by kernel_rfl) (by kernel_rfl) (fun _ _ _ h => h) (by rfl) hG6 ?_
                    go_frame
                    refine h_skip (i := 41) rfl (by kernel_rfl) (by kernel_rfl) (by kernel_rfl) (fun _ _ _ h => h) (by rfl) hG6 ?_
                    go_frame
                    refine h_skip (i := 42) rfl (by kernel_rfl) (by kernel_rfl) (by kernel_rfl) (fun _ _ _ h => h) (by rfl) hG6 ?_
                    go_frame
                    refine h_skip (i := 43) rfl (by kernel_rfl) (by kernel_rfl) (by kernel_rfl) (fun _ _ _ h => h) (by rfl) hG6 ?_
                    go_frame
                    refine h_skip (i := 44) rfl (by kernel_rfl) (by kernel_rfl) (by kernel_rfl) (fun _ _ _ h => h) (by rfl) hG6 ?_
                    go_frame
                    refine h_val (i := 45) (v := .bool false) rfl (by kernel_rfl) (by kernel_rfl) (by kernel_rfl) (fun _ _ _ h => h) (by rfl) (fun w hS => ?_) hG6 ?_
                    · obtain ⟨s1, s2, -⟩ := hS
                      clear hG6
                      go_simp
                    go_frame
                    refine h_val (i := 46) (v := .bool false) rfl (by kernel_rfl) (by kernel_rfl) (by kernel_rfl) (fun _ _ _ h => h) (by rfl) (fun w hS => ?_) hG6 ?_
                    · obtain ⟨s1, s2, -⟩ := hS
                      clear hG6
                      go_simp
                    go_frame
                    refine h_done (by kernel_rfl) ?_
                    go_wp2_with fail
                    go_meet
                    first | exact ⟨rfl, hG6.2.2⟩ | (case rel => exact ⟨rfl, hG6.2.2⟩)
                case rest =>
                  obtain ⟨rfl, hE2⟩ := hcut
                  go_wp2
                  go_roundw
                  case rel => exact ⟨k + 1, by omega, by go_num, hE2⟩
                  case measure => simp [intOf]; omega
              · obtain rfl : k = n := by omega
                have HE := Lib.hid hE
                clear hE
                go_wp2
                go_roundw
                case rel => exact ⟨j + 1, by omega, by go_num, HE.out⟩
                case measure => simp [intOf]; omega
        · obtain rfl : j = n := by omega
          have HE := Lib.hid hE
          clear hE
          go_wp2_with (go_at_call 7; refine (HKN.out _).mono ?_; rintro e w' ⟨rfl, hb5⟩)
          go_ret
          exact ⟨rfl, below_add (below_add HB4.out HE.out HB4.out.size) hb5 (below_add HB4.out HE.out HB4.out.size).size⟩
end Go.Proofs.Ytoienmcgcefdiaa
