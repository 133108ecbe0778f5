
import Derived.Test.YtohgopibimgjfaaGreatZ9
/- Q22: what may be is small; Size, told whole; Encode at any size -/
namespace Go.Proofs.YtohgopibimgjfaaGreat
open Go.RowKit
set_option linter.unusedVariables false
set_option maxRecDepth 100000

theorem vm_sz {k n f : Int} {s : ByteArray} (h : vmay k n f s = true) : s.size ≤ 64 := by
  rcases of_decide_eq_true h with ⟨-, -, -, h⟩ | ⟨-, -, h⟩ | ⟨-, -, -, h⟩ | ⟨-, -, -, h⟩
  · omega
  · omega
  · omega
  · unfold textB at h
    rw [Bool.and_eq_true] at h
    exact of_decide_eq_true h.1
theorem sizeA_le : ∀ {st : List Att}, (∀ a ∈ st, a.s.size ≤ 64) → sizeA st ≤ 64 * st.length
  | [], _ => by simp [sizeA]
  | a :: r, h => by
    have h1 := h a (by simp)
    have h2 := sizeA_le (st := r) fun x hx => h x (by simp [hx])
    have e : sizeA (a :: r) = a.s.size + sizeA r := by simp [sizeA]
    rw [e, List.length_cons]
    omega
theorem sizeC_le : ∀ {pt : List Chg}, (∀ a ∈ pt, a.s.size ≤ 64) → sizeC pt ≤ 64 * pt.length
  | [], _ => by simp [sizeC]
  | a :: r, h => by
    have h1 := h a (by simp)
    have h2 := sizeC_le (pt := r) fun x hx => h x (by simp [hx])
    have e : sizeC (a :: r) = a.s.size + sizeC r := by simp [sizeC]
    rw [e, List.length_cons]
    omega
theorem may5_sz {ks : List Key} {st : List Att} (h : may5 ks st = 0) : totA st ≤ 4160 := by
  unfold may5 at h
  by_cases hw : wf5 st = true
  · unfold wf5 at hw
    simp only [Bool.and_eq_true, decide_eq_true_eq] at hw
    have := sizeA_le (st := st) fun a ha => vm_sz (List.all_eq_true.1 hw.2 a ha)
    have := hw.1.2
    unfold totA
    omega
  · rw [if_neg hw] at h
    omega
theorem may6_sz {ks : List Key} {pt : List Chg} (h : may6 ks pt = 0) : totC pt ≤ 4160 := by
  unfold may6 at h
  by_cases hw : (wf6 pt && okV (ats pt)) = true
  · unfold wf6 at hw
    simp only [Bool.and_eq_true, decide_eq_true_eq] at hw
    have := sizeC_le (pt := pt) fun c hc => by
      have hg := List.all_eq_true.1 hw.1.2 c hc
      by_cases g : c.g = true
      · have hz : zv c = true := by simpa [gOk, g] using hg
        unfold zv at hz
        simp only [Bool.and_eq_true, beq_iff_eq] at hz
        have h4 := hz.2
        rw [ByteArray.toList_eq, ByteArray.toList_eq] at h4
        have h5 := congrArg List.length h4
        have h6 : c.s.size = c.s.data.toList.length := by rw [Array.length_toList]; rfl
        rw [h6, h5]
        simp
      · have ha : toA c ∈ ats pt := by
          unfold ats
          exact List.mem_map_of_mem (List.mem_filter.2 ⟨hc, by simpa using g⟩)
        exact vm_sz (List.all_eq_true.1 hw.2 _ ha)
    have := hw.1.1.2
    unfold totC
    omega
  · rw [if_neg hw] at h
    omega
theorem op_sz {ks : List Key} {z : Oz} (h : Fo ks z.o) : (szO z : Int) ≤ 4162 * ((if cnt 3 z.o then lenO z.o else 0) + (if cnt 2 z.o then lenO z.o else 0)) := by
  have e1 : z.o.rs = z.rs := rfl
  have e2 : z.o.st = z.st := rfl
  have e3 : z.o.pt = z.pt := rfl
  have n0 := lenO_nn z.o
  unfold szO
  rcases h.kind with k | k | k
  · obtain ⟨h1, h2, h3, h4⟩ := h.r k
    rw [if_pos (cnt_1 k), if_pos (cnt_1 k)]
    have := may6_sz h4
    rw [e3] at this
    have hl := len_1 (p := z.o) (by omega)
    rw [if_pos (by omega)] at hl
    rw [← e1, ← e2, h1, h2, hl]
    simp only [List.length_nil, totA, sizeA, List.map_nil, List.sum_nil]
    omega
  · obtain ⟨h1, h2, h3, -, h4⟩ := h.i k
    rw [if_neg (by rw [cnt_n (by omega) (by omega)]; exact Bool.false_ne_true), if_pos (cnt_k k)]
    have := may5_sz h4
    rw [e2] at this
    have hl := len_2 (p := z.o) k
    have hp : 0 < z.rs.length := List.length_pos_iff.2 h3
    rw [← e3, h2, hl, e1]
    simp only [List.length_nil, totC, sizeC, List.map_nil, List.sum_nil]
    omega
  · obtain ⟨h1, h2, h3, h4⟩ := h.d k
    rw [if_pos (cnt_k k), if_neg (by rw [cnt_n (by omega) (by omega)]; exact Bool.false_ne_true)]
    have hl := len_1 (p := z.o) (by omega)
    rw [if_pos (by omega)] at hl
    rw [← e1, ← e2, ← e3, h1, h2, h3, hl]
    simp only [List.length_nil, totA, sizeA, totC, sizeC, List.map_nil, List.sum_nil]
    omega
theorem ops_sz {ks : List Key} : ∀ {zs : List Oz}, (∀ z ∈ zs, Fo ks z.o) → (totO zs : Int) ≤ 4162 * (tot 3 (zs.map Oz.o) + tot 2 (zs.map Oz.o))
  | [], _ => by simp [totO, tot]
  | z :: r, h => by
    have h1 := op_sz (h z (by simp))
    have h2 := ops_sz (zs := r) fun x hx => h x (by simp [hx])
    have e : totO (z :: r) = szO z + totO r := by simp [totO]
    rw [List.map_cons, tot_cons, tot_cons, e]
    omega
/-- What may be is small. -/
theorem may_tot {ks : List Key} {zs : List Oz} (h : mayX ks (zs.map Oz.o) = 0) : totO zs ≤ 4611686018427387904 := by
  obtain ⟨h1, h2, -⟩ := mayX_0.1 h
  have := ops_sz (ks := ks) (zs := zs) fun z hz => (may_fn h z.o (List.mem_map_of_mem hz)).fo
  omega
theorem sum_take {α : Type} (f : α → Nat) {l : List α} {k : Nat} (h : k < l.length) : ((l.take (k + 1)).map f).sum = ((l.take k).map f).sum + f l[k] := by
  rw [List.take_succ_eq_append_getElem h, List.map_append, List.sum_append]
  simp
theorem sum_tk {α : Type} (f : α → Nat) (l : List α) (k : Nat) : ((l.take k).map f).sum ≤ (l.map f).sum := by
  have e : l.map f = (l.take k).map f ++ (l.drop k).map f := by rw [← List.map_append, List.take_append_drop]
  rw [e, List.sum_append]
  omega
theorem totO_take {zs : List Oz} {k : Nat} (h : k < zs.length) : totO (zs.take (k + 1)) = totO (zs.take k) + szO zs[k] := sum_take szO h
theorem totO_tk (zs : List Oz) (k : Nat) : totO (zs.take k) ≤ totO zs := sum_tk szO zs k
theorem sizeA_take {st : List Att} {k : Nat} (h : k < st.length) : sizeA (st.take (k + 1)) = sizeA (st.take k) + st[k].s.size := sum_take (fun c : Att => c.s.size) h
theorem sizeA_tk (st : List Att) (k : Nat) : sizeA (st.take k) ≤ sizeA st := sum_tk (fun c : Att => c.s.size) st k
theorem sizeC_take {st : List Chg} {k : Nat} (h : k < st.length) : sizeC (st.take (k + 1)) = sizeC (st.take k) + st[k].s.size := sum_take (fun c : Chg => c.s.size) h
theorem sizeC_tk (st : List Chg) (k : Nat) : sizeC (st.take k) ≤ sizeC st := sum_tk (fun c : Chg => c.s.size) st k
set_option maxHeartbeats 4000000 in
theorem size_is (u : Value) (zs : List Oz) (w : World) (hv : Orow w u zs) (hT : totO zs ≤ 4611686018427387904) :
    Calls Tryz.prog 9 #[u] w fun e w' => e = .returned (.int .i64 ((totO zs : Nat) : Int)) ∧ Below w.heap.size w w' := by
  have hl : zs.length ≤ 9223372036854775807 := hv.len
  obtain ⟨a1, cap1, rfl⟩ := hv.shape
  by_cases h0 : 0 < zs.length
  rotate_left
  · obtain rfl : zs = [] := List.eq_nil_of_length_eq_zero (by omega)
    clear hv h0
    go_enter Tryz.func9, Tryz.ntmps9
    go_wp2
    refine wp_loop_rounds 1 ?_
    rw [rounds_succ]
    go_wp2
    go_ret
    exact ⟨rfl, Below.refl _ _⟩
  obtain ⟨b1, o1, rfl, -, -, -, hbl, hat⟩ := hv.row.ats h0
  have HAT := Lib.hid hat
  have HOK := Lib.hid hv.ok
  clear hv hat
  go_enter Tryz.func9, Tryz.ntmps9
  go_wp2
  go_loopw [3, 4] (fun s3 s4 wr => ∃ (k : Nat) (t : Int), k ≤ zs.length ∧ s3 = .int .i64 t ∧ s4 = .int .i64 k ∧ Hid (Below w.heap.size w wr ∧ t = ((totO (zs.take k) : Nat) : Int))) (fun _ s4 _ => zs.length - (intOf s4).toNat)
  case atStart => exact ⟨0, 0, Nat.zero_le _, rfl, rfl, Lib.hid ⟨Below.refl _ _, rfl⟩⟩
  case round =>
    obtain ⟨k, t, hk, rfl, rfl, HR2⟩ := hrel
    have HR := Lib.hid HR2.out.1
    have HTT := Lib.hid HR2.out.2
    clear HR2
    obtain ⟨wo, hwo⟩ : ∃ x : World, x = wr := ⟨_, rfl⟩
    subst hwo
    by_cases hlt : k < zs.length
    · have hoat := HAT.out k hlt
      have hok := HOK.out _ (List.getElem_mem hlt)
      have hst := totO_take hlt
      have hle := totO_tk zs (k + 1)
      generalize zs[k] = p at hoat hok hst
      obtain ⟨A, hA⟩ : ∃ A, totO (zs.take k) = A := ⟨_, rfl⟩
      rw [hA] at hst HTT
      clear hA
      have HLT := Lib.hid hlt
      have HC := Lib.hid (fun W (hb : Below w.heap.size w W) => OAt.below hoat hb)
      have HSR := Lib.hid (fun W (hb : Below w.heap.size w W) => hok.s.below hb (Nat.le_refl _))
      have HPR := Lib.hid (fun W (hb : Below w.heap.size w W) => hok.p.below hb (Nat.le_refl _))
      have hrl := hok.r.len
      have hsl := hok.s.len
      have hpl := hok.p.len
      clear hok hoat
      obtain ⟨pk, pn, pra, prc, prs, psa, psc, pst, ppa, ppc, ppt⟩ := p
      simp only at hrl hsl hpl
      obtain ⟨c0, c1, c2, c3, c4⟩ := HC.out wo HR.out
      obtain ⟨rl, hrl2⟩ : ∃ n, prs.length = n := ⟨_, rfl⟩
      obtain ⟨sl, HE2⟩ : ∃ n, Hid (pst.length = n) := ⟨_, Lib.hid rfl⟩
      obtain ⟨pl, HE3⟩ : ∃ n, Hid (ppt.length = n) := ⟨_, Lib.hid rfl⟩
      have HRR := Lib.hid hrl2
      simp only [szO, totA, totC] at hst
      rw [hrl2, HE2.out, HE3.out] at hst
      have HST := Lib.hid hst
      have HLE := Lib.hid (show A + 1 + rl + sl + pl + sizeA pst + sizeC ppt ≤ 4611686018427387904 from by omega)
      clear hst hle
      obtain ⟨B0, HB0⟩ : ∃ n, Hid (A + 1 + rl + sl + pl = n) := ⟨_, Lib.hid rfl⟩
      have e2 := HE2.out
      have e3 := HE3.out
      simp only at c2 c3 c4
      rw [hrl2] at c2 hrl
      rw [e2] at c3 hsl
      rw [e3] at c4 hpl
      clear hrl2 e2 e3
      go_wp2
      go_quiet (fail)
      rename_i nq
      have HBQ := Lib.hid (blw_drewN HR.out nq)
      clear c0 c1 c2 c3 c4
      go_wp2
      go_loopw [3, 5] (fun s3 s5 wi => ∃ (j : Nat) (t : Int), j ≤ sl ∧ s3 = .int .i64 t ∧ s5 = .int .i64 j ∧ Hid (Below w.heap.size w wi ∧ t = ((B0 + sizeA (pst.take j) : Nat) : Int))) (fun _ s5 _ => sl - (intOf s5).toNat)
      case atStart => exact ⟨0, _, Nat.zero_le _, rfl, rfl, Lib.hid ⟨HBQ.out, by have h1 := HTT.out; have h2 := HLE.out; have h9 := HB0.out; simp only [List.take_zero, sizeA, List.map_nil, List.sum_nil]; unfold wrap64; omega⟩⟩
      case round =>
        obtain ⟨j, t2, hj, rfl, rfl, HI2⟩ := hrel
        have HI := Lib.hid HI2.out.1
        have HIT := Lib.hid HI2.out.2
        clear HI2
        obtain ⟨wi, hwi⟩ : ∃ x : World, x = wr := ⟨_, rfl⟩
        subst hwi
        obtain ⟨c0, c1, c2, c3, c4⟩ := HC.out wi HI.out
        by_cases hjl : j < sl
        · have hjo : j < pst.length := by rw [HE2.out]; exact hjl
          have hsr := HSR.out wi HI.out
          obtain ⟨b2, o2, ha2, -, -, -, -, hat2⟩ := Arow.opn hsr (by omega)
          obtain ⟨d0, d1, d2, d3, d4⟩ := hat2 j hjo
          simp only at ha2 c3
          subst ha2
          rw [HE2.out] at c3
          have HJ := Lib.hid hjl
          have hs2 := sizeA_take hjo
          have HL2 := Lib.hid (sizeA_tk pst (j + 1))
          generalize pst[j] = x at d0 d1 d2 d3 d4 hs2
          obtain ⟨x1, x2, x3, x4, x5⟩ := x
          simp only at d0 d1 d2 d3 d4 hs2
          have HS2 := Lib.hid hs2
          clear hat2 hjo hsr hs2
          go_wp2
          go_roundw
          case rel => exact ⟨j + 1, _, HJ.out, rfl, by go_num, Lib.hid ⟨HI.out, by have h1 := HIT.out; have h2 := HLE.out; have h9 := HB0.out; have h3 := HL2.out; have h4 := HS2.out; unfold wrap64; omega⟩⟩
          case measure => have := HJ.out; simp [intOf]; omega
        · obtain rfl : j = sl := by omega
          simp only at c3 c4
          rw [HE2.out] at c3
          rw [HE3.out] at c4
          go_wp2
          go_loopw [3, 6] (fun s3 s6 wi => ∃ (j : Nat) (t : Int), j ≤ pl ∧ s3 = .int .i64 t ∧ s6 = .int .i64 j ∧ Hid (Below w.heap.size w wi ∧ t = ((B0 + sizeA pst + sizeC (ppt.take j) : Nat) : Int))) (fun _ s6 _ => pl - (intOf s6).toNat)
          case atStart => exact ⟨0, _, Nat.zero_le _, rfl, rfl, Lib.hid ⟨HI.out, by have h1 := HIT.out; rw [List.take_of_length_le (Nat.le_of_eq HE2.out)] at h1; simp only [List.take_zero, sizeC, List.map_nil, List.sum_nil]; omega⟩⟩
          case round =>
            clear c0 c1 c2 c3 c4
            obtain ⟨j3, t3, hj3, rfl, rfl, HP2⟩ := hrel
            have HP := Lib.hid HP2.out.1
            have HPT := Lib.hid HP2.out.2
            clear HP2
            obtain ⟨wp, hwp⟩ : ∃ x : World, x = wr := ⟨_, rfl⟩
            subst hwp
            obtain ⟨c0, c1, c2, c3, c4⟩ := HC.out wp HP.out
            simp only at c4
            by_cases hjl : j3 < pl
            · have hjo : j3 < ppt.length := by rw [HE3.out]; exact hjl
              have hpr := HPR.out wp HP.out
              obtain ⟨b2, o2, ha2, -, -, -, -, hat2⟩ := Crow.opn hpr (by omega)
              obtain ⟨d0, d1, d2, d3, d4, d5⟩ := hat2 j3 hjo
              simp only at ha2
              subst ha2
              rw [HE3.out] at c4
              have HJ := Lib.hid hjl
              have hs2 := sizeC_take hjo
              have HL2 := Lib.hid (sizeC_tk ppt (j3 + 1))
              generalize ppt[j3] = x at d0 d1 d2 d3 d4 d5 hs2
              obtain ⟨x1, x2, x3, x4, x5, x6⟩ := x
              simp only at d0 d1 d2 d3 d4 d5 hs2
              have HS2 := Lib.hid hs2
              clear hat2 hjo hpr hs2
              go_wp2
              go_roundw
              case rel => exact ⟨j3 + 1, _, HJ.out, rfl, by go_num, Lib.hid ⟨HP.out, by have h1 := HPT.out; have h2 := HLE.out; have h9 := HB0.out; have h3 := HL2.out; have h4 := HS2.out; unfold wrap64; omega⟩⟩
              case measure => have := HJ.out; simp [intOf]; omega
            · obtain rfl : j3 = pl := by omega
              rw [HE3.out] at c4
              go_wp2
              go_roundw
              case rel => exact ⟨k + 1, _, HLT.out, rfl, by go_num, Lib.hid ⟨HP.out, by have h1 := HPT.out; have h2 := HST.out; have h9 := HB0.out; rw [List.take_of_length_le (Nat.le_of_eq HE3.out)] at h1; omega⟩⟩
              case measure => have := HLT.out; simp [intOf]; omega
    · obtain rfl : k = zs.length := by omega
      rw [List.take_length] at HTT
      go_wp2
      go_ret
      exact ⟨by rw [HTT.out]; rfl, HR.out⟩
/-- Size: where the delta may be, what it has. -/
theorem size_may (u : Value) (zs : List Oz) (w : World) (hv : Orow w u zs) :
    Calls Tryz.prog 9 #[u] w fun e w' => (∃ n, e = .returned (.int .i64 n) ∧ ∀ ks, mayX ks (zs.map Oz.o) = 0 → ((totO zs : Nat) : Int) = n) ∧ Below w.heap.size w w' := by
  by_cases h : totO zs ≤ 4611686018427387904
  · exact (size_is u zs w hv h).mono fun e w' q => ⟨⟨_, q.1, fun _ _ => rfl⟩, q.2⟩
  · exact (size_any u zs w hv).mono fun e w' q => by
      obtain ⟨⟨n, hn⟩, hb⟩ := q
      exact ⟨⟨n, hn, fun ks hm => absurd (may_tot hm) h⟩, hb⟩
set_option maxHeartbeats 2000000 in
/-- Encode of what may not be, at any size. -/
theorem penc_no (sv u : Value) (ks : List Key) (zs : List Oz) (w : World) (hs : Sch w sv ks) (hx : Orow w u zs) (hd : ∀ z ∈ zs, OpW z) (hm : mayX ks (zs.map Oz.o) ≠ 0) :
    Calls Tryz.prog 12 #[sv, u] w fun e w' => e = .returned (.tuple #[.slice none 0 0, .int .i64 (mayX ks (zs.map Oz.o))]) ∧ Below w.heap.size w w' := by
  have HM := Lib.hid (pmay_any sv u ks zs w hs hx hd)
  generalize mayX ks (zs.map Oz.o) = m at *
  have e1 : (m != 0) = true := by simpa using hm
  clear hs hx hd hm
  go_enter Tryz.func12, Tryz.ntmps12
  go_wp2_with (go_at_call 20; go_loud (refine HM.out.mono ?_; rintro e w1 ⟨rfl, hb⟩; have HB1 := Lib.hid hb; clear hb))
  go_ret2
  exact ⟨rfl, HB1.out⟩
/-- Encode of whatever is told small where it may be. -/
theorem penc_w (h : PEnc) {sv u : Value} {ks : List Key} {zs : List Oz} {w : World} {f : Int} {L : List Int} (hs : Sch w sv ks) (hx : Orow w u zs) (hd : ∀ z ∈ zs, OpW z) (hd2 : mayX ks (zs.map Oz.o) = 0 → Din ks zs) (hm : mayX ks (zs.map Oz.o) = f) (hL : encX (formO (zs.map Oz.o)) = L) :
    Calls Tryz.prog 12 #[sv, u] w fun e w' => ∃ a n c, e = .returned (.tuple #[.slice a n c, .int .i64 f]) ∧ (f = 0 → Ints .u8 w' (.slice a n c) L) ∧ Below w.heap.size w w' := by
  by_cases h0 : mayX ks (zs.map Oz.o) = 0
  · exact penc_x h hs hx (hd2 h0) hm hL
  · refine (penc_no sv u ks zs w hs hx hd h0).mono fun e w' q => ⟨none, 0, 0, by rw [q.1, hm], fun e0 => absurd (hm.trans e0) h0, q.2⟩
end Go.Proofs.YtohgopibimgjfaaGreat
