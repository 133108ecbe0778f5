
import Derived.Test.YtoienmcgcefdiaaS21
/- S24: SchemaKeys, keys that may be -/
namespace Go.Proofs.Ytoienmcgcefdiaa
open Go.RowKit
set_option linter.unusedVariables false

theorem At.keep {B B' : Nat} {k n f : Int} {s : ByteArray} {w w' : World} (h : At B k n f s w) (hb : Below B' w w') (hB : B < B') : At B k n f s w' := by
  obtain ⟨h0, h1, h2, h3⟩ := h
  exact ⟨(hb.cell (p := ⟨B, _, none⟩) hB).trans h0, (hb.cell (p := ⟨B, _, none⟩) hB).trans h1, (hb.cell (p := ⟨B, _, none⟩) hB).trans h2, (hb.cell (p := ⟨B, _, none⟩) hB).trans h3⟩

/-- What the last test of a round reads, and what was there ahead. -/
def KeysC (A1 A2 B : Nat) (kk : Key) (k n f : Int) (s : ByteArray) (w0 w' : World) : Prop := KBox A1 kk w' ∧ KBox A2 kk w' ∧ At B k n f s w' ∧ Below w0.heap.size w0 w'
theorem KeysC.below {A1 A2 B : Nat} {kk : Key} {k n f : Int} {s : ByteArray} {w0 w w' : World} (h : KeysC A1 A2 B kk k n f s w0 w) (hb : Below w.heap.size w w') : KeysC A1 A2 B kk k n f s w0 w' := by
  obtain ⟨h1, h2, h3, h4⟩ := h
  exact ⟨h1.below hb (World.block_lt_of_cell? _ _ h1.1), h2.below hb (World.block_lt_of_cell? _ _ h2.1), h3.below hb, below_add h4 hb h4.size⟩

set_option maxRecDepth 100000 in
set_option maxHeartbeats 16000000 in
theorem keys_good (v : Value) (ks : List Key) (id k n f : Int) (s : ByteArray) (w : World) (hv : Krow w v ks) (hW : ∀ k ∈ ks, KeyW k) (h0 : 0 < ks.length) (hs : s.size ≤ 1000) (hm : mayKs ks) (hw : (Lit.int .i64 id).wf = true) (hf0 : 0 ≤ f) (hf1 : f < 18446744073709551616) :
    Calls Try.prog 3 #[v, .int .i64 id, val k n f s] w fun e w' => e = .returned (.bool true) ∧ Below w.heap.size w w' := by
  have HKN := Lib.hid (fun w => skn_any w)
  obtain ⟨i0, hi, hz0, hz1, hz2⟩ := info_parts infoKey
  have hl := hm.1
  have HV := Lib.hid hv
  have HM := Lib.hid hm
  have HN := Lib.hid (fun v2 W (hv2 : Krow W v2 ks) => new_yes hv2 hW hm)
  have HRM := Lib.hid (fun W hb => (rmay_keys v ks W (hv.below hb (Nat.le_refl _))).mono fun e w' (h : MayPost ks W e w') => show e = .returned (.bool true) ∧ Below W.heap.size W w' by
    obtain ⟨h1, b, h2, h3⟩ := h
    cases b
    · exact absurd (h3.2 hm) (by simp)
    · exact ⟨h2, h1⟩)
  have HRK := Lib.hid (fun W hb => rkeys_any v ks W (hv.below hb (Nat.le_refl _)))
  obtain ⟨kk, bb, hkk⟩ : ∃ kk bb, fndV ks id = .tuple #[kv kk, .bool bb] := ⟨_, _, rfl⟩
  obtain ⟨gs, hgs⟩ : ∃ gs, grpOf ks id = gs := ⟨_, rfl⟩
  obtain ⟨fb, hfb⟩ : ∃ fb, fitsB ks id k n f s = fb := ⟨_, rfl⟩
  have hgl64 : gs.length ≤ 64 := by rw [← hgs]; exact grpOf_len hl hm.2 id
  have HKK := Lib.hid hkk
  have HGS := Lib.hid hgs
  have HFB := Lib.hid hfb
  have HRF := Lib.hid (fun W hb => by have := rfind_any v ks id W (hv.below hb (Nat.le_refl _)); rw [hkk] at this; exact this)
  have HRG := Lib.hid (fun W hb => by have := rgroup_any v ks id W (hv.below hb (Nat.le_refl _)) hl hm.2; rw [hgs] at this; exact this)
  have HRFit := Lib.hid (fun W hb => by have := rfits_any v ks id k n f s W (hv.below hb (Nat.le_refl _)) hf0 hf1 (by omega); rw [hfb] at this; exact this)
  clear hkk hgs hfb
  have HID0 := Lib.hid (show (flat ks)[0]? = some (.int .i64 ks[0].id) by have := flat_get ks 0 0 h0 (by omega); simpa using this)
  obtain ⟨a, cap, hva⟩ := hv.shape
  subst hva
  clear hv hm
  have d1 : decide ((200 : Int) < (ks.length : Int)) = false := by rw [decide_eq_false_iff_not]; omega
  have d2 : ((ks.length : Int) != (ks.length : Int)) = false := by simp
  have d3 : decide ((1000 : Int) < (s.size : Int)) = false := by rw [decide_eq_false_iff_not]; omega
  go_enter Try.func3, Try.ntmps3
  go_wp2_with (first
    | (at_builtin; refine wpList_append_keys rfl (.tmp 32) (.tmp 33) 22 rfl (w.heap.size + 1) 32 i0 (kv noKey) 24 Try.underlying22 hi hz0 hz1 hz2 rfl (.slice (some ⟨w.heap.size + 1, 0, none⟩) 0 0) 0 [] rfl (own6_empty w _ _) (.slice a ks.length cap) ks rfl (HV.out.below (kbelow_two w _ _) (Nat.le_refl _)) (by unfold maxLen; omega) (by omega) (by simp only [World.size_alloc]; omega) ?_; intro v1 w1 hown1 hgrow1; simp only [Nat.zero_add, List.nil_append] at hown1; obtain ⟨g, cap2, rfl, hgb, hgl⟩ := hown1.form h0)
    | (go_at_call 8; ((with_reducible refine (HN.out _ _ (Krow.of_owns hown1).1).mono ?_); rintro e w2 ⟨sp, rfl, hs2, hb2⟩)))
  have hB1 := (kbelow_two w (.cells (vcells k n f s) 25) (.cells #[] 32)).grown hgrow1 (by simp only [World.size_alloc]; omega) (fun q hq => by simp [Value.ownBlock] at hq; omega)
  have hA1 : At w.heap.size k n f s w1 := ((At.box k n f s w 25).below ((Below.refl _ _).alloc (Nat.le_refl _) (.cells #[] 32))).keep ((Below.refl (w.heap.size + 1) _).grown hgrow1 (by simp only [World.size_alloc]; omega) (fun q hq => by simp [Value.ownBlock] at hq; omega)) (by omega)
  have hown2 := owns_below hown1 hb2
  have hini := id_init hown2 rfl
  have HS2 := Lib.hid (fun W hgr => Sch.grown (w' := W) hs2 hgr hown2 h0 HID0.out)
  have HB2 := Lib.hid (below_add hB1 hb2 hB1.size)
  have HA2 := Lib.hid (hA1.below hb2)
  have hgw : w.heap.size + 1 ≤ g := hgb
  clear hown1 hgrow1 hb2 hB1 hgb hgl hown2 hs2 hA1
  go_loopw [42] (fun i wr => ∃ j : Nat, j ≤ ks.length ∧ i = .int .i64 j ∧ IdRel w2 g cap2 ks.length wr) (fun i _ => ks.length - (intOf i).toNat)
  case atStart => exact ⟨0, Nat.zero_le _, rfl, hini⟩
  case round =>
    obtain ⟨j, hj, rfl, hR⟩ := hrel
    by_cases hlt : j < ks.length
    · obtain ⟨z, c0, f0⟩ := id_open hR hlt
      have HST := Lib.hid (fun y => id_step hR hlt y)
      clear hR
      go_wp2
      go_roundw
      case rel => exact ⟨j + 1, by omega, by go_num, HST.out _⟩
      case measure => simp [intOf]; omega
    · obtain ⟨xs0, -, -, hbg, hgr⟩ := hR
      have HBR := Lib.hid (HB2.out.trans (hbg.mono (Nat.le_of_succ_le hgw)))
      have HAR := Lib.hid (HA2.out.keep hbg hgw)
      have HSR := Lib.hid (HS2.out _ hgr)
      have hrl := rising_length HM.out.2
      generalize hrs : rising ks = rs at hrl
      have HRS := Lib.hid hrs
      have hrs0 : 0 < rs.length := by omega
      have hrs64 : rs.length ≤ 64 := by omega
      clear hbg hgr hrs hini HS2 HB2 HA2
      obtain ⟨wo, rfl⟩ : ∃ wo : World, wo = wr := ⟨_, rfl⟩
      go_wp2_with (first
        | (go_at_call 9; ((with_reducible refine (HRM.out _ HBR.out).mono ?_); rintro e w3 ⟨rfl, hb3⟩))
        | (go_at_call 10; ((with_reducible refine (len_any (.pointer (some sp)) ks _ (HSR.out.below hb3 (Nat.le_refl _))).mono ?_); rintro e w' ⟨rfl, rfl⟩))
        | (go_at_call 11; ((with_reducible refine (HRK.out _ (below_add HBR.out hb3 HBR.out.size)).mono ?_); rintro e w4 ⟨lv, he, hown4, hb4⟩; rw [HRS.out] at hown4; obtain ⟨la, lcap, rfl⟩ := (Krow.of_owns hown4).1.shape; obtain ⟨bW, oW, rfl, -, -, -, hblW, hatW⟩ := (Krow.of_owns hown4).1.opened hrs0; subst he)))
      have HE0 := Lib.hid (below_add (below_add HBR.out hb3 HBR.out.size) hb4 (below_add HBR.out hb3 HBR.out.size).size)
      have HA4 := Lib.hid ((HAR.out.below hb3).below hb4)
      have HS4 := Lib.hid ((HSR.out.below hb3 (Nat.le_refl _)).below hb4 (Nat.le_refl _))
      have HAT := Lib.hid hatW
      clear hb3 hb4 hown4 hatW HBR HAR HSR
      have HRL := Lib.hid hrl
      have d4 : ((rs.length : Int) != (ks.length : Int)) = false := by rw [hrl]; simp
      have HFD := Lib.hid (fun W hE => by have := find_any (.pointer (some sp)) ks id W (HS4.out.below hE (Nat.le_refl _)) hw; rw [HKK.out] at this; exact this)
      have HGR := Lib.hid (fun W hE => by have := group_any (.pointer (some sp)) ks id W (HS4.out.below hE (Nat.le_refl _)) hw; rw [HGS.out] at this; exact this)
      have HFT := Lib.hid (fun W hE => by have := fits_any (.pointer (some sp)) ks id k n f s W (HS4.out.below hE (Nat.le_refl _)) hw hf0 hf1; rw [HFB.out] at this; exact this)
      clear HKK HGS HFB
      obtain ⟨y1, y2, y3, y4, y5, y6⟩ := kk
      have HKS := Lib.hid (fun W hE => keys_any (.pointer (some sp)) ks W (HS4.out.below hE (Nat.le_refl _)))
      clear hrl
      go_loopw [12] (fun i wr => ∃ r : Nat, r ≤ 2 ∧ i = .int .i64 r ∧ Below w4.heap.size w4 wr) (fun i _ => 2 - (intOf i).toNat)
      case atStart => exact ⟨0, by omega, rfl, Below.refl _ _⟩
      case round =>
        obtain ⟨r, hr, rfl, hE⟩ := hrel
        by_cases hr2 : r < 2
        · have HE := Lib.hid hE
          clear hE
          go_wp2_with (first
            | (go_at_call 12; ((with_reducible refine (HKS.out _ HE.out).mono ?_); rintro e w5 ⟨v5, he, hown5, hb5⟩; rw [HRS.out] at hown5; obtain ⟨g5, cap5, rfl, hg5, -⟩ := hown5.form hrs0; subst he)))
          have hE5 := below_add HE.out hb5 HE.out.size
          have HE5 := Lib.hid hE5
          have hbs := HE.out.size
          have hg4 : w4.heap.size ≤ g5 := by omega
          have hini5 := kind_init hown5 (Below.refl g5 w5)
          clear hb5 hown5 hE5 hbs
          obtain ⟨wo, rfl⟩ : ∃ wo : World, wo = wr := ⟨_, rfl⟩
          go_loopw [90] (fun i wr => ∃ t : Nat, t ≤ rs.length ∧ i = .int .i64 t ∧ KindRel w5 g5 cap5 rs t wr) (fun i _ => rs.length - (intOf i).toNat)
          case atStart => exact ⟨0, Nat.zero_le _, rfl, hini5⟩
          case round =>
            obtain ⟨t, ht, rfl, hR⟩ := hrel
            by_cases htl : t < rs.length
            · have htk : t < ks.length := by have := HRL.out; omega
              obtain ⟨⟨c0, c1, c2, c3, c4, c5⟩, f2⟩ := kind_open hR htl
              have hEt : Below w4.heap.size w4 wr := by obtain ⟨xs, -, -, hb⟩ := hR; exact HE5.out.trans (hb.mono hg4)
              obtain ⟨e0, e1, e2, e3, e4, e5⟩ := (HAT.out t htl).below hEt hblW
              have hq := fun w => key_neq rs[t] rs[t] w
              simp only [keq_self, Bool.not_true] at hq
              have HR := Lib.hid hR
              clear hR hEt
              generalize rs[t] = o at *
              obtain ⟨x1, x2, x3, x4, x5, x6⟩ := o
              simp only at c0 c1 c2 c3 c4 c5 e0 e1 e2 e3 e4 e5 hq
              go_wp2
              go_quiet (fail)
              go_wp2
              go_roundw
              case rel => exact ⟨t + 1, by omega, by go_num, kind_step (kind_drew HR.out nq) 0⟩
              case measure => simp [intOf]; omega
            · obtain ⟨xs, -, -, hb⟩ := hR
              have HE6 := Lib.hid (HE5.out.trans (hb.mono hg4))
              clear hb hini5 HE5 HE
              go_wp2_with (first
                | (go_at_call 13; ((with_reducible refine (HFD.out _ HE6.out).mono ?_); rintro e w6 ⟨rfl, hb6⟩; have hE7 := (below_add HE6.out hb6 HE6.out.size).alloc (below_add HE6.out hb6 HE6.out.size).size (.cells (kca ⟨y1, y2, y3, y4, y5, y6⟩) 32); have hK1 := KBox.box ⟨y1, y2, y3, y4, y5, y6⟩ w6 32))
                | (go_at_call 14; ((with_reducible refine (HRF.out _ (below_add HE0.out hE7 HE0.out.size)).mono ?_); rintro e w7 ⟨rfl, hb7⟩; have hE8 := (below_add hE7 hb7 hE7.size).alloc (below_add hE7 hb7 hE7.size).size (.cells (kca ⟨y1, y2, y3, y4, y5, y6⟩) 32); have hK2 := KBox.box ⟨y1, y2, y3, y4, y5, y6⟩ w7 32; have hK1 := (hK1.below hb7 (by simp)).below ((Below.refl _ _).alloc (Nat.le_refl _) (.cells (kca ⟨y1, y2, y3, y4, y5, y6⟩) 32)) (by have := hb7.size; simp at this; omega)))
                | (go_at_call 15; ((with_reducible refine (HGR.out _ hE8).mono ?_); rintro e w8 ⟨v8, he, hown8, hb8⟩; obtain ⟨a8, cap8, rfl⟩ := (Ints.of_owns hown8).1.shape; subst he; have hE9 := below_add hE8 hb8 hE8.size))
                | (go_at_call 16; ((with_reducible refine (HRG.out _ (below_add HE0.out hE9 HE0.out.size)).mono ?_); rintro e w9 ⟨v9, he, hown9, hb9⟩; obtain ⟨a9, cap9, rfl⟩ := (Ints.of_owns hown9).1.shape; subst he; have hE10 := below_add hE9 hb9 hE9.size)))
              have hK1' := (hK1.below hb8 (by have h7 := hb7.size; simp only [World.size_alloc] at h7 ⊢; omega)).below hb9 (by have h7 := hb7.size; have h8 := hb8.size; simp only [World.size_alloc] at h7 h8; omega)
              have hK2' := (hK2.below hb8 (by simp)).below hb9 (by have h8 := hb8.size; simp only [World.size_alloc] at h8; omega)
              have HLT8 := Lib.hid hown8.lt
              have hC0 : KeysC w6.heap.size w7.heap.size w.heap.size ⟨y1, y2, y3, y4, y5, y6⟩ k n f s w9 w9 := ⟨hK1', hK2', HA4.out.below hE10, Below.refl _ _⟩
              have HE10 := Lib.hid hE10
              have HO8 := Lib.hid (owns_below hown8 hb9)
              have HO9 := Lib.hid hown9
              have hg8 := hE8.size
              have hg89 := hb8.size
              have KF := Lib.hid (fun w1 (hC : KeysC w6.heap.size w7.heap.size w.heap.size ⟨y1, y2, y3, y4, y5, y6⟩ k n f s w9 w1) => (HFT.out w1 (below_add hE10 hC.2.2.2 hE10.size)).mono fun e w' (h : e = .returned (.bool fb) ∧ Below w1.heap.size w1 w') => (show e = .returned (.bool fb) ∧ KeysC w6.heap.size w7.heap.size w.heap.size ⟨y1, y2, y3, y4, y5, y6⟩ k n f s w9 w' from ⟨h.1, hC.below h.2⟩))
              have KR := Lib.hid (fun w1 (hC : KeysC w6.heap.size w7.heap.size w.heap.size ⟨y1, y2, y3, y4, y5, y6⟩ k n f s w9 w1) => (HRFit.out w1 (below_add (below_add HE0.out hE10 HE0.out.size) hC.2.2.2 (below_add HE0.out hE10 HE0.out.size).size)).mono fun e w' (h : e = .returned (.bool fb) ∧ Below w1.heap.size w1 w') => (show e = .returned (.bool fb) ∧ KeysC w6.heap.size w7.heap.size w.heap.size ⟨y1, y2, y3, y4, y5, y6⟩ k n f s w9 w' from ⟨h.1, hC.below h.2⟩))
              have hqk := fun w => key_neq ⟨y1, y2, y3, y4, y5, y6⟩ ⟨y1, y2, y3, y4, y5, y6⟩ w
              simp only [keq_self, Bool.not_true] at hqk
              have hqb := fun w => run_neq_bool (P := Try.prog) (w := w) 4 bb bb Try.underlying4
              have hqf := fun w => run_neq_bool (P := Try.prog) (w := w) 4 fb fb Try.underlying4
              simp only [beq_self_eq_true, Bool.not_true] at hqb hqf
              have d5 : ((gs.length : Int) != (gs.length : Int)) = false := by simp
              generalize w8.heap.size = S8 at *
              clear hE7 hE8 hE9 hE10 hb6 hb7 hb8 hb9 hown8 hown9 hK1 hK2 hK1' hK2' HE6
              generalize w6.heap.size = A1 at *
              generalize w7.heap.size = A2 at *
              refine region_class (C := KeysC A1 A2 w.heap.size ⟨y1, y2, y3, y4, y5, y6⟩ k n f s w9) (by kernel_rfl) (by kernel_rfl) (hC0.below ((Below.refl _ _).drew)) ?_
              repeat (first
                | (refine q_skip (by rfl) ?_
                   simp only [Act.put, List.setIfInBounds_toArray, List.set_cons_zero, List.set_cons_succ])
                | (refine q_val (v := ?_) (by rfl) (fun w hS => ?_) ?_
                   rotate_left
                   · obtain ⟨⟨p0, p1, p2, p3, p4, p5⟩, ⟨r0, r1, r2, r3, r4, r5⟩, ⟨t0, t1, t2, t3⟩, -⟩ := hS
                     go_simp
                     try with_reducible rfl
                   simp only [Act.put, List.setIfInBounds_toArray, List.set_cons_zero, List.set_cons_succ])
                | (refine q_call (by rfl) (fun w hS => ?_) KF.out ?_
                   · obtain ⟨⟨p0, p1, p2, p3, p4, p5⟩, ⟨r0, r1, r2, r3, r4, r5⟩, ⟨t0, t1, t2, t3⟩, -⟩ := hS
                     go_simp
                   simp only [Act.put, List.setIfInBounds_toArray, List.set_cons_zero, List.set_cons_succ])
                | (refine q_call (by rfl) (fun w hS => ?_) KR.out ?_
                   · obtain ⟨⟨p0, p1, p2, p3, p4, p5⟩, ⟨r0, r1, r2, r3, r4, r5⟩, ⟨t0, t1, t2, t3⟩, -⟩ := hS
                     go_simp
                   simp only [Act.put, List.setIfInBounds_toArray, List.set_cons_zero, List.set_cons_succ]))
              refine q_end ?_
              intro w10 hC10
              have hb10 := hC10.2.2.2
              have HE11 := Lib.hid (below_add HE10.out hb10 HE10.out.size)
              have ho8 := owns_below HO8.out hb10
              have ho9 := owns_below HO9.out hb10
              clear hC0 hC10 hb10 hqk hqb hqf
              obtain ⟨wo2, rfl⟩ : ∃ wo2 : World, wo2 = wo := ⟨_, rfl⟩
              by_cases hx0 : 0 < gs.length
              · obtain ⟨g8, c8, hv8, hgb8, -⟩ := ho8.form hx0
                injection hv8 with e1 _ e3
                subst e1 e3
                obtain ⟨g9, c9, hv9, hgb9, -⟩ := ho9.form hx0
                injection hv9 with e1 _ e3
                subst e1 e3
                have hl8 := (HLT8.out g8 (by simp [Value.ownBlock])).2
                have hne : g9 ≠ g8 := by omega
                have hini8 := num_init ho8
                have H9 := Lib.hid (fun (t : Nat) (ht : t < gs.length) => show w10.cell? ⟨g9, t, none⟩ = some (.int .i64 (gs.getD t 0)) by rw [ho9.cellAt t (by omega)]; simp [List.getD, ht])
                have hl9 := (ho9.lt g9 (by simp [Value.ownBlock])).2
                have hg48 : w4.heap.size ≤ g8 := by omega
                clear ho8 ho9
                go_wp2_with fail
                go_loopw [153] (fun i wr => ∃ t : Nat, t ≤ gs.length ∧ i = .int .i64 t ∧ NumRel w10 g8 cap8 gs t wr) (fun i _ => gs.length - (intOf i).toNat)
                case atStart => exact ⟨0, Nat.zero_le _, rfl, hini8⟩
                case round =>
                  obtain ⟨t, ht, rfl, hR⟩ := hrel
                  by_cases htl : t < gs.length
                  · obtain ⟨c0, f0⟩ := num_open hR htl
                    have e0 : wr.cell? ⟨g9, t, none⟩ = some (.int .i64 (gs.getD t 0)) := by
                      obtain ⟨cs, -, -, -, hgr⟩ := hR
                      exact (World.cell?_of_block (a := ⟨g9, t, none⟩) (hgr.block g9 hl9 (fun e => hne (by injection e)))).trans (H9.out t htl)
                    have HR := Lib.hid hR
                    clear hR
                    generalize gs.getD t 0 = x at c0 e0
                    have d6 : (x != x) = false := by simp
                    go_wp2
                    go_quiet (fail)
                    go_wp2
                    go_roundw
                    case rel => exact ⟨t + 1, by omega, by go_num, num_step (num_drew HR.out nq) (-1)⟩
                    case measure => simp [intOf]; omega
                  · obtain ⟨cs, -, -, hb, -⟩ := hR
                    have HE12 := Lib.hid (HE11.out.trans (hb.mono hg48))
                    clear hb hini8
                    go_wp2
                    go_roundw
                    case rel => exact ⟨r + 1, by omega, by go_num, HE12.out⟩
                    case measure => simp [intOf]; omega
              · have hz : gs.length = 0 := by omega
                go_wp2_with fail
                refine wp_loop_rounds 1 ?_
                rw [rounds_succ]
                go_wp2
                go_roundw
                case rel => exact ⟨r + 1, by omega, by go_num, HE11.out⟩
                case measure => simp [intOf]; omega
        · obtain rfl : r = 2 := by omega
          have HE := Lib.hid hE
          clear hE
          go_wp2_with (go_at_call 7; refine (HKN.out _).mono ?_; rintro e w' ⟨rfl, hb5⟩)
          go_ret
          exact ⟨rfl, below_add (below_add HE0.out HE.out HE0.out.size) hb5 (below_add HE0.out HE.out HE0.out.size).size⟩
end Go.Proofs.Ytoienmcgcefdiaa
