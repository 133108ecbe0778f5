
import Derived.Test.YteilhjkkgdgbkaaNT
import Derived.Deep.CutBlock
/- NU: ArenaKeeps' walk -/
namespace Go.Proofs.Yteilhjkkgdgbkaa
open Go.RowKit Go.Shelf
open Go.Maps
set_option linter.unusedVariables false

@[reducible] def X2 (xb : Nat) (id x : Int) (w : World) : Prop := w.cell? ⟨xb, 1, none⟩ = some (.int .i64 id) ∧ w.cell? ⟨xb, 2, none⟩ = some (.int .i64 x)
set_option maxRecDepth 100000 in
set_option maxHeartbeats 4000000 in
theorem keeps_walk (v : Value) (ls : List OpL) (w : World) (h : Orow w v ls) (hW : ∀ o ∈ ls, OpW o) :
    Calls Try.prog 5 #[v] w fun e w' => e = .returned (.bool true) ∧ Below w.heap.size w w' := by
  by_cases hl : 200 < ls.length
  · exact keeps_long v ls w h hl
  obtain ⟨la, lc, rfl⟩ := h.shape
  have g1 : decide (200 < (ls.length : Int)) = false := by rw [decide_eq_false_iff_not]; omega
  have hl2 : ls.length ≤ 200 := by omega
  have HLS := Lib.hid h
  have HOW := Lib.hid hW
  have HN := Lib.hid (new_S w)
  have hmm := @run_makeMap Try.prog
  clear h hl hW
  go_enter Try.func5, Try.ntmps5
  go_wp2_with (go_at_call 20; refine HN.out.mono ?_; rintro e w2 ⟨ab, rfl, hT, hb, -⟩)
  obtain ⟨mb, hmb⟩ : ∃ mb, w2.heap.size = mb := ⟨_, rfl⟩
  have hmo : OwnM (w2.alloc (.map #[] 0)) w2.heap.size 0 (.map []) := World.ownsMap_made w2 _ _ _
  have hal := (Below.refl w2.heap.size w2).alloc (Nat.le_refl _) (.map #[] 0)
  have H0 := Lib.hid (show KeepW w ab mb (fun q => w.heap.size ≤ q ∧ q < w2.heap.size) newA (.map []) 0 (w2.alloc (.map #[] 0)) from by
    rw [hmb] at hmo
    exact ⟨by rw [mapA_new]; exact (hT.cutS).below hal, hmo, WantR.new, fun e => by omega, by rw [← hmb]; exact hb.size, below_add hb hal hb.size, fun q hq => by have := hal.size; omega⟩)
  rw [hmb]
  generalize w2.alloc (.map #[] 0) = W0 at *
  clear hT hb hmo hal hmb HN hmm
  go_loopw [34, 6] (fun s34 s6 wr => ∃ (k : Nat) (A : ArS Int) (D : DataW Unit) (S : Nat → Prop), s34 = .int .i64 (k : Nat) ∧ k ≤ ls.length ∧ s6 = .int .i64 (A.ps.length : Nat) ∧ KeepW w ab mb S A D k wr) (fun s34 _ _ => ls.length - (intOf s34).toNat)
  case atStart => exact ⟨0, _, _, _, rfl, Nat.zero_le _, rfl, H0.out⟩
  case round =>
    obtain ⟨k, A, D, S, rfl, hk, rfl, hP⟩ := hrel
    by_cases hlt : k < ls.length
    · obtain ⟨lb, lo, rfl, hlc, -, hlb, hat⟩ := Orow.opn HLS.out (by omega)
      obtain ⟨cy0, cy1, cy2⟩ := hat k hlt
      have c0 := (hP.bel.cell (p := ⟨lb, lo + k * 3, none⟩) hlb).trans cy0
      have c1 := (hP.bel.cell (p := ⟨lb, lo + k * 3 + 1, none⟩) hlb).trans cy1
      have c2 := (hP.bel.cell (p := ⟨lb, lo + k * 3 + 2, none⟩) hlb).trans cy2
      have g2 : decide ((k : Int) < (ls.length : Int)) = true := by rw [decide_eq_true_iff]; omega
      have k0 : (0 : Int) ≤ (k : Int) := by omega
      have k1 : (k : Int) < (ls.length : Int) := by omega
      have hwf := HOW.out _ (List.getElem_mem hlt)
      have HLB := Lib.hid hlc
      clear hat cy0 cy1 cy2 hlc
      generalize ls[k] = O at *
      obtain ⟨kd, id, x⟩ := O
      obtain ⟨-, wi, wx⟩ := hwf
      simp only at c0 c1 c2 wi wx
      obtain ⟨d, hd⟩ : ∃ d, A.has id = d := ⟨_, rfl⟩
      have hwd : Maps.has D (.int .i64 id) = d := (hP.want.has id).trans hd
      have hx1 := heap_alloc_new wr (.cells #[.int .i64 kd, .int .i64 id, .int .i64 x] 33)
      have hP1 := hP.below ((Below.refl wr.heap.size wr).alloc (Nat.le_refl _) (.cells #[.int .i64 kd, .int .i64 id, .int .i64 x] 33))
      have hm1 := hP1.m
      have hki := keyOf_int_mk (P := Try.prog) Try.underlying3 wi
      have HP := Lib.hid (And.intro hP1 hx1)
      have HSX := Lib.hid hP.lt
      have HMB := Lib.hid hP.m.lt
      have HD := Lib.hid hd
      clear hP hP1 hx1 hd
      go_upto_block 2 with (first
        | (at_lookup; refine wpList_lookup_own_ok_int _ rfl _ _ 57 rfl 3 2 .i64 keyedI8 Try.underlying57 Try.underlying2 (zero64 _) mb _ _ rfl hm1 _ _ rfl hki ?_; intro cc hcc hcw; rw [hwd])
        | go_in)
      generalize wr.alloc (.cells #[.int .i64 kd, .int .i64 id, .int .i64 x] 33) = W1 at *
      generalize wr.heap.size = xb at *
      clear c0 c1 c2
      have hkk : k ≤ 200 := by omega
      have hn : k ≤ 1000000 := by omega
      go_cut [] from 35 to 138 (fun wx => ∃ (A' : ArS Int) (D' : DataW Unit) (S' : Nat → Prop), KeepW w ab mb S' A' D' (k + 1) wx ∧ A'.ps.length = max A.ps.length (cnt A'.ps))
      case first =>
        obtain ⟨hP, hx⟩ := HP.out
        have hxl := lt_of_heap hx
        have hXD := fun (w4 : World) (ho : w4.heap[xb]? = W1.heap[xb]?) => (show X2 xb id x w4 from ⟨by rw [cell_of_row w4 xb 1 _ _ _ (ho.trans hx)]; rfl, by rw [cell_of_row w4 xb 2 _ _ _ (ho.trans hx)]; rfl⟩)
        have hSx : ¬ S xb := fun e => by have := HSX.out xb e; omega
        have hmx : mb ≠ xb := fun e => by have := HMB.out; omega
        obtain ⟨x1, x2⟩ := hXD W1 rfl
        have HTX := Lib.hid (fun w => text_any x w)
        have HXD := Lib.hid hXD
        have HPP := Lib.hid hP
        have hpsk := hP.ps
        have hcn : cnt A.ps ≤ A.ps.length := cnt_le _
        clear hP hx hXD
        by_cases hk1 : kd = 1
        · subst hk1
          have hfr : A.has (A.fresh : Nat) = false := by rw [has_nat, (freshA HPP.out.ok).1]; rfl
          have hfw : (Lit.int .i64 (A.fresh : Nat)).wf = true := WalkArith.wf_i64 (by have := (freshA HPP.out.ok).2; omega)
          have hkf := keyOf_int_mk (P := Try.prog) Try.underlying3 hfw
          have hwf : Maps.has D (.int .i64 (A.fresh : Nat)) = false := (HPP.out.want.has _).trans hfr
          have HTK := Lib.hid (fun (w3 : World) (hb : Below W1.heap.size W1 w3) => take_S (txtN x) (HPP.out.below hb).t hn)
          have g5 : decide (((A.fresh : Nat) : Int) < 0) = false := by rw [decide_eq_false_iff_not]; omega
          have HWT := Lib.hid (fun (w3 : World) (hb : Below W1.heap.size W1 w3) (w4 : World) (ht4 : Ar_S w.heap.size (fun q => S q ∨ w3.heap.size ≤ q) ab ((mapA A).take (txtN x)) (k + 1) w4) (ho4 : Off S w3 w4) (w5 : World) (hm5 : OwnM w5 mb (k + 1) (D.put (.int .i64 (A.fresh : Nat)) (.lit (.int .i64 x)))) (ht5 : w4.mapTurned w5 mb) =>
            (HPP.out.below hb).turn (by rw [← mapA_take]; exact ht4) (fun q hq => hq) ho4 hm5 ht5.grown (HPP.out.want.take HPP.out.tidy HPP.out.ok x))
          have HM4 := Lib.hid (fun (w3 : World) (hb : Below W1.heap.size W1 w3) (w4 : World) (ho4 : Off S w3 w4) => (show OwnM w4 mb k D ∧ X2 xb id x w4 from ⟨(HPP.out.below hb).map1 ho4, HXD.out w4 ((ho4.block xb (Nat.lt_of_lt_of_le hxl hb.size) hSx).trans (hb.block xb hxl))⟩))
          have HLT := Lib.hid (len_take HPP.out.ok x)
          go_wp2_with (first
            | (go_at_call 21; refine (HTX.out _).mono ?_; rintro e w3 ⟨rfl, hb3⟩)
            | (go_at_call 22; refine (HTK.out w3 hb3).mono ?_; rintro e w4 ⟨rfl, ht4, ho4⟩; obtain ⟨hm4, z1, z2⟩ := HM4.out w3 hb3 w4 ho4; rw [mapA_fresh])
            | (at_lookup; refine wpList_lookup_own_ok_int _ rfl _ _ 57 rfl 3 2 .i64 keyedI8 Try.underlying57 Try.underlying2 (zero64 _) mb _ _ rfl hm4 _ _ rfl hkf ?_; intro cc hcc hcw; rw [hwf])
            | (at_mapUpdate; refine wpList_mapUpdate_in _ rfl _ _ _ 57 rfl 3 2 keyedI8 Try.underlying57 (plainElem Try.prog 2) mb _ _ rfl hm4 (by unfold maxLen; omega) _ _ _ rfl rfl hkf _ [] (plainElem_int Try.underlying2 wx) ?_; intro w5 hm5 ht5))
          obtain ⟨S5, h5⟩ := HWT.out w3 hb3 w4 ht4 ho4 w5 hm5 ht5
          go_frame
          go_meet
          exact ⟨_, _, _, h5, HLT.out.1⟩
        · have q1 : (kd == 1) = false := by simpa using hk1
          by_cases hk2 : kd = 2
          · subst hk2
            cases d with
            | true =>
              obtain ⟨j, y, rfl, hy, hj⟩ := has_some HD.out
              have hy2 : (mapA A).at_ j = some (txtN y) := by rw [mapA_at, hy]; rfl
              have HF := Lib.hid (free_yes_S HPP.out.t hn hy2)
              have HWT := Lib.hid (fun (w4 : World) (ht4 : Ar_S w.heap.size (fun q => S q ∨ W1.heap.size ≤ q) ab ((mapA A).out j) (k + 1) w4) (ho4 : Off S W1 w4) (w5 : World) (hm5 : OwnM w5 mb k (D.del (.int .i64 (j : Nat)))) (ht5 : w4.mapTurned w5 mb) =>
                HPP.out.turn (by rw [← mapA_out]; exact ht4) (fun q hq => hq) ho4 (hm5.mono (Nat.le_succ k)) ht5.grown (HPP.out.want.out_ HPP.out.tidy hy))
              have HM4 := Lib.hid (fun (w4 : World) (ho4 : Off S W1 w4) => (show OwnM w4 mb k D ∧ X2 xb (j : Nat) x w4 from ⟨HPP.out.map1 ho4, HXD.out w4 (ho4.block xb hxl hSx)⟩))
              have hco := cnt_out hy
              have HLT := Lib.hid (show (A.out j).ps.length = max A.ps.length (cnt (A.out j).ps) from by
                have e : (A.out j).ps.length = A.ps.length := by simp [ArS.out]
                rw [e]; omega)
              go_wp2_with (first
                | (go_at_call 23; refine HF.out.mono ?_; rintro e w4 ⟨rfl, ht4, ho4⟩; obtain ⟨hm4, z1, z2⟩ := HM4.out w4 ho4)
                | (at_delete; refine wpList_delete_own _ rfl _ _ 57 3 rfl 2 keyedI8 Try.underlying57 _ mb _ _ rfl hm4 _ _ rfl hki ?_; intro w5 hm5 ht5))
              obtain ⟨S5, h5⟩ := HWT.out w4 ht4 ho4 w5 hm5 ht5
              go_frame
              go_meet
              exact ⟨_, _, _, h5, HLT.out⟩
            | false =>
              have HF := Lib.hid (free_not_S HPP.out.t hn (by rw [mapA_has]; exact HD.out))
              have hm1 := HPP.out.m
              have HLT := Lib.hid (show A.ps.length = max A.ps.length (cnt A.ps) from by omega)
              have HWT := Lib.hid (fun (w5 : World) (hm5 : OwnM w5 mb k (D.del (.int .i64 id))) (ht5 : W1.mapTurned w5 mb) =>
                HPP.out.turn (HPP.out.t.le (Nat.le_succ k)) (fun q hq => .inl hq) (Off.refl _ _) (by rw [HPP.out.want.del_no HD.out] at hm5; exact hm5.mono (Nat.le_succ k)) ht5.grown HPP.out.want)
              go_wp2_with (first
                | (go_at_call 23; refine HF.out.mono ?_; rintro e w4 ⟨rfl, hw⟩; have hw := hw.symm; subst hw)
                | (at_delete; refine wpList_delete_own _ rfl _ _ 57 3 rfl 2 keyedI8 Try.underlying57 _ mb _ _ rfl hm1 _ _ rfl hki ?_; intro w5 hm5 ht5))
              obtain ⟨S5, h5⟩ := HWT.out w5 hm5 ht5
              go_frame
              go_meet
              exact ⟨_, _, _, h5, HLT.out⟩
          · have q2 : (kd == 2) = false := by simpa using hk2
            by_cases hk3 : kd = 3
            · subst hk3
              have hbd : Below W1.heap.size W1 W1.drew := (Below.refl _ _).drew
              have hS0 : X2 xb id x W1.drew := HXD.out _ rfl
              have HS3 := Lib.hid (fun (w3 : World) (hb : Below W1.drew.heap.size W1.drew w3) => (show X2 xb id x w3 from HXD.out w3 (hb.block xb hxl)))
              have HPD := Lib.hid (HPP.out.below hbd)
              clear hbd
              cases d with
              | true =>
                obtain ⟨j, y, rfl, hy, hj⟩ := has_some HD.out
                have hy2 : (mapA A).at_ j = some (txtN y) := by rw [mapA_at, hy]; rfl
                have HF := Lib.hid (fun (w3 : World) (hb : Below W1.drew.heap.size W1.drew w3) => puts_S (txtN x) (HPD.out.below hb).t hn hy2)
                have HWT := Lib.hid (fun (w3 : World) (hb : Below W1.drew.heap.size W1.drew w3) (w4 : World) (ht4 : Ar_S w.heap.size S ab ((mapA A).put j (txtN x)) k w4) (ho4 : Off S w3 w4) (w5 : World) (hm5 : OwnM w5 mb (k + 1) (D.put (.int .i64 (j : Nat)) (.lit (.int .i64 x)))) (ht5 : w4.mapTurned w5 mb) =>
                  (HPD.out.below hb).turn (by rw [← mapA_put]; exact ht4.le (Nat.le_succ k)) (fun q hq => .inl hq) ho4 hm5 ht5.grown (HPP.out.want.put_ HPP.out.tidy hy x))
                have HM4 := Lib.hid (fun (w3 : World) (hb : Below W1.drew.heap.size W1.drew w3) (w4 : World) (ho4 : Off S w3 w4) => (show OwnM w4 mb k D ∧ X2 xb (j : Nat) x w4 from ⟨(HPD.out.below hb).map1 ho4, HXD.out w4 ((ho4.block xb (Nat.lt_of_lt_of_le hxl hb.size) hSx).trans (hb.block xb hxl))⟩))
                have HLT := Lib.hid (show (A.put j x).ps.length = max A.ps.length (cnt (A.put j x).ps) from by
                  have e : (A.put j x).ps.length = A.ps.length := by simp [ArS.put]
                  have := cnt_le (A.put j x).ps
                  rw [e] at this ⊢; omega)
                go_wp2_with fail
                go_region_held3 (fun w' => X2 xb (j : Nat) x w') (first | assumption | trivial)
                  (first
                    | (go_at_call 21; refine (HTX.out _).mono ?_; rintro e w3 ⟨rfl, hb3⟩; have hS3 := HS3.out w3 hb3)
                    | (go_at_call 24; refine (HF.out w3 hb3).mono ?_; rintro e w4 ⟨rfl, ht4, ho4⟩; obtain ⟨hm4, hS4⟩ := HM4.out w3 hb3 w4 ho4))
                obtain ⟨z1, z2⟩ := hS4
                go_wp2_with (at_mapUpdate; refine wpList_mapUpdate_in _ rfl _ _ _ 57 rfl 3 2 keyedI8 Try.underlying57 (plainElem Try.prog 2) mb _ _ rfl hm4 (by unfold maxLen; omega) _ _ _ rfl rfl hki _ [] (plainElem_int Try.underlying2 wx) ?_; intro w5 hm5 ht5)
                obtain ⟨S5, h5⟩ := HWT.out w3 hb3 w4 ht4 ho4 w5 hm5 ht5
                go_frame
                go_meet
                exact ⟨_, _, _, h5, HLT.out⟩
              | false =>
                have HF := Lib.hid (fun (w3 : World) (hb : Below W1.drew.heap.size W1.drew w3) => put_not_S (txtN x) (HPD.out.below hb).t hn (by rw [mapA_has]; exact HD.out))
                have HLT := Lib.hid (show A.ps.length = max A.ps.length (cnt A.ps) from by omega)
                go_wp2_with fail
                go_region_held3 (fun w' => X2 xb id x w') (first | assumption | trivial)
                  (first
                    | (go_at_call 21; refine (HTX.out _).mono ?_; rintro e w3 ⟨rfl, hb3⟩; have hS3 := HS3.out w3 hb3)
                    | (go_at_call 24; refine (HF.out w3 hb3).mono ?_; rintro e w4 ⟨rfl, hw⟩; have hw := hw.symm; subst hw))
                go_wp2
                go_meet
                exact ⟨_, _, _, (HPD.out.below hb3).le (Nat.le_succ k), HLT.out⟩
            · have q3 : (kd == 3) = false := by simpa using hk3
              have HLT := Lib.hid (show A.ps.length = max A.ps.length (cnt A.ps) from by omega)
              go_wp2
              go_meet
              exact ⟨_, _, _, HPP.out.le (Nat.le_succ k), HLT.out⟩
      case rest =>
        obtain ⟨A2, D2, S2, hPc, hpl⟩ := hcut
        have hps := hPc.ps
        have hcn : cnt A2.ps ≤ A2.ps.length := cnt_le _
        have hsz := hPc.want.size
        have hmc := hPc.m
        have HPC := Lib.hid hPc
        have HAT := Lib.hid (show ∀ (i c : Int), (∀ zd, D2.atKey (.int .i64 i) zd = .lit (.int .i64 c)) → ∃ j : Nat, i = j ∧ A2.at_ j = some c ∧ j < A2.ps.length from fun i c h => by
          have h1 := Maps.has_true_of_atKey h
          rw [hPc.want.has] at h1
          obtain ⟨j, y, e, hy, hj⟩ := has_some h1
          subst e
          have h2 := hPc.want.at_ j y hy (.lit (.int .i64 0))
          rw [h] at h2
          injection h2 with h2
          injection h2 with _ h2
          exact ⟨j, rfl, by rw [hy, h2], hj⟩)
        clear hPc HP HD HSX HMB hwd hki wi wx hm1
        go_upto_region 28 with (first
          | (at_len; refine wpList_len_own _ rfl _ 57 rfl 3 2 Try.underlying57 _ mb _ _ rfl hmc ?_; rw [hsz])
          | go_in)
        have hmax : (if A.ps.length < cnt A2.ps then ((cnt A2.ps : Nat) : Int) else ((A.ps.length : Nat) : Int)) = ((A2.ps.length : Nat) : Int) := by
          rw [hpl]; split <;> omega
        rw [hmax]
        have hb0 := hmc.lt
        go_wp2_with (at_range; refine wpList_range_own _ rfl _ 57 rfl 3 2 keyedI8 Try.underlying57 _ mb _ D2 rfl hmc ?_; intro w0 hrg0 hg0 hs0)
        go_frame
        have hbl0 : Below wc.heap.size wc w0 := (Below.refl _ _).grown hg0 (Nat.le_refl _) (by simp)
        have HPW := Lib.hid (fun (w4 : World) (hb : Below wc.heap.size wc w4) => HPC.out.below hb)
        clear hg0 hs0 hmax hpl hmc HPC
        have hn1 : k + 1 ≤ 1000000 := by omega
        generalize wc.heap.size = r at *
        go_loopw [14] (fun _ wr => ∃ left ct, wr.ranges Try.prog 3 (plainElem (H := Unit) Try.prog 2) mb r (k + 1) D2 left ct ∧ Below r wc wr) (fun _ wr => wr.rangeLeft mb r)
        case atStart => exact ⟨_, _, hrg0, hbl0⟩
        case round =>
          obtain ⟨left, ct, hrg, hbl⟩ := hrel
          go_wp2_with (at_next; refine wpList_next_ranges_ii _ rfl _ rfl 3 2 .i64 .i64 keyedI8 Try.underlying3 Try.underlying2 mb r (k + 1) D2 left ct rfl hrg ?_ ?_)
          · intro hc0 hl0
            have HBL := Lib.hid hbl
            have hl := lens_S (HPW.out wr hbl).t hn1
            have hcl : (mapA A2).len = cnt A2.ps := by
              have h1 := (HPW.out wr hbl).ok.cnt
              unfold ArS.len mapA
              simp only [List.length_map]
              omega
            rw [hcl] at hl
            have HLN := Lib.hid hl
            have HCP := Lib.hid (fun (w4 : World) (hb : Below r wc w4) => (show Calls Try.prog 27 #[.pointer (some ⟨ab, 0, none⟩)] w4 fun e w' => e = .returned (.int .i64 (A2.ps.length : Nat)) ∧ w' = w4 from by
              have := caps_S (HPW.out w4 hb).t
              have e : (mapA A2).ps.length = A2.ps.length := by simp [mapA]
              rw [e] at this
              exact this))
            clear hrg hbl hl hcl hl0 hc0
            go_wp2_with (first
              | (go_at_call 26; refine HLN.out.mono ?_; rintro e w4 ⟨rfl, q, hq⟩; have hb4 : Below r wc w4 := (by rw [hq]; exact blw_drewN HBL.out q); have hm4 := (HPW.out w4 hb4).m; clear hq)
              | (go_at_call 27; refine (HCP.out _ hb4).mono ?_; rintro e wx ⟨rfl, hw⟩; have hw := hw.symm; subst hw)
              | (at_len; refine wpList_len_own _ rfl _ 57 rfl 3 2 Try.underlying57 _ mb _ _ rfl hm4 ?_; rw [hsz]))
            exact ⟨⟨k + 1, A2, D2, S2, by go_num, by omega, rfl, HPW.out w4 hb4⟩, by simp [intOf]; omega⟩
          · intro i c w1 ct1 hwx hwc hlx hat hrg1 hlt1 hg1 hs1 hen
            obtain ⟨j, rfl, hj, hjl⟩ := HAT.out i c hat
            have hb1 : Below r wc w1 := hbl.grown hg1 (by have := hbl.size; have := hrg.lt; omega) (fun q e => by cases e; exact Nat.le_refl _)
            have HA := Lib.hid (ats_S (HPW.out w1 hb1).t hn1 (show (mapA A2).at_ j = some (txtN c) from by rw [mapA_at, hj]; rfl))
            have HTX := Lib.hid (text_any c w1)
            have HR := Lib.hid (fun (w3 : World) (hb3 : Below w1.heap.size w1 w3) => (show w3.ranges Try.prog 3 (plainElem (H := Unit) Try.prog 2) mb r (k + 1) D2 (fun z => left z && !z.sameKey (.int .i64 (j : Nat))) ct1 ∧ Below r wc w3 from
              ⟨hrg1.kept ⟨hb3.os, hb3.tape, hb3.output, hb3.size, fun q hq _ => hb3.block q hq⟩ (row := none) (by simp) (by simp), below_add hb1 hb3 (by have := hb1.size; have := hrg1.lt; omega)⟩))
            have HLE := Lib.hid hrg.left_eq
            clear hrg hrg1 hbl hg1 hs1 hb1 hat hj hwx hwc hlx
            go_wp2_with (first
              | (go_at_call 25; refine HA.out.mono ?_; rintro e wx ⟨rfl, hw⟩; have hw := hw.symm; subst hw)
              | (go_at_call 21; refine HTX.out.mono ?_; rintro e w3 ⟨rfl, hb3⟩))
            refine ⟨⟨_, _, HR.out w3 hb3⟩, ?_⟩
            rw [(HR.out w3 hb3).1.left_eq, HLE.out]
            exact hlt1
    · obtain rfl : k = ls.length := by omega
      have g2 : decide ((ls.length : Int) < (ls.length : Int)) = false := by rw [decide_eq_false_iff_not]; omega
      have HK := Lib.hid (known8_any wr)
      have HB := Lib.hid hP.bel
      clear hP
      go_wp2_with (go_at_call 8; refine HK.out.mono ?_; rintro e w9 ⟨rfl, hb9⟩)
      go_ret
      exact ⟨rfl, below_add HB.out hb9 HB.out.size⟩
end Go.Proofs.Yteilhjkkgdgbkaa
