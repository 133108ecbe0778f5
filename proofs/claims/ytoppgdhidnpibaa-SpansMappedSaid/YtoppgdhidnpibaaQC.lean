
import Derived.Test.YtoppgdhidnpibaaQB
import Derived.StillTailTactics
/- QC: SpansMapped -/
namespace Go.Proofs.Ytoppgdhidnpibaa
open Go.RowKit
set_option linter.unusedVariables false
set_option maxRecDepth 100000

theorem cnt_step' (l : List Int) (i j : Int) (xs : List Rw) {k : Nat} (hx : xs.length ≤ 100) (h : cntR l ≤ 101 * k) : cntR (spL l i j xs) ≤ 101 * (k + 1) := by
  have := spL_cnt l i j xs
  omega
set_option maxHeartbeats 2000000 in
theorem mapped_long (v0 : Value) (ls : List OpL) (oa ob : OpV) (w : World) (h0 : Orow w v0 ls) (hl : ¬ ls.length ≤ 40) :
    Calls Try.prog 6 #[v0, opA oa, opA ob] w fun e w' => e = .returned (.bool true) ∧ Below w.heap.size w w' := by
  obtain ⟨a0, c0, rfl⟩ := h0.shape
  have hlen := h0.len
  have g0 : decide ((40 : Int) < (ls.length : Int)) = true := decide_eq_true (by omega)
  rw [show opA oa = .agg (opcs oa) from rfl, show opA ob = .agg (opcs ob) from rfl]
  have HB := Lib.hid ((((Below.refl w.heap.size w).alloc (Nat.le_refl _) (.cells (opcs oa) 24)).alloc (by simp) (.cells (opcs ob) 24)))
  clear h0 hl
  go_enter Try.func6, Try.ntmps6
  go_upto_region 1 with fail
  refine with_worldT (fun W => Below w.heap.size w W) HB.out fun W0 hW0 => ?_
  have B0 := Lib.hid hW0
  clear hW0 HB
  go_wp2_with (first
    | (go_at_call 19; refine (rv_new (B := W0.heap.size) W0 (Nat.le_refl _)).mono ?_; rintro e w1 ⟨rb, rfl, q1, bb⟩; have R1 := Lib.hid q1; have B1 := Lib.hid (below_add B0.out bb B0.out.size); clear q1 bb B0)
    | (go_at_call 19; refine (rv_new2 R1.out).mono ?_; rintro e w2 ⟨sb, rfl, q1, bb⟩; have B2 := Lib.hid (below_add B1.out bb B1.out.size); clear q1 bb R1 B1)
    | (go_at_call 8; refine (known11_any _).mono ?_; rintro e w3 ⟨rfl, bb⟩; have B99 := Lib.hid (below_add B2.out bb B2.out.size); clear bb))
  go_ret
  exact ⟨rfl, B99.out⟩
set_option maxHeartbeats 8000000 in
theorem mapped_main (v0 : Value) (ls : List OpL) (oa ob : OpV) (w : World) (h0 : Orow w v0 ls) (hl : ls.length ≤ 40) :
    Calls Try.prog 6 #[v0, opA oa, opA ob] w fun e w' => e = .returned (.bool true) ∧ Below w.heap.size w w' := by
  obtain ⟨a0, c0, rfl⟩ := h0.shape
  rw [show opA oa = .agg (opcs oa) from rfl, show opA ob = .agg (opcs ob) from rfl]
  have HP := Lib.hid (show Cb w.heap.size 24 (opcs oa) ((w.alloc (.cells (opcs oa) 24)).alloc (.cells (opcs ob) 24)) ∧ Cb (w.heap.size + 1) 24 (opcs ob) ((w.alloc (.cells (opcs oa) 24)).alloc (.cells (opcs ob) 24)) ∧ Below w.heap.size w ((w.alloc (.cells (opcs oa) 24)).alloc (.cells (opcs ob) 24)) from
    ⟨(cb_new w _ _).alloc _, by have := cb_new (w.alloc (.cells (opcs oa) 24)) 24 (opcs ob); simpa using this, ((Below.refl w.heap.size w).alloc (Nat.le_refl _) (.cells (opcs oa) 24)).alloc (by simp) (.cells (opcs ob) 24)⟩)
  have HO := Lib.hid (show Orow ((w.alloc (.cells (opcs oa) 24)).alloc (.cells (opcs ob) 24)) (.slice a0 ls.length c0) ls from h0.below HP.out.2.2)
  obtain ⟨n0, hn0⟩ : ∃ n, ls.length = n := ⟨_, rfl⟩
  have N0 := Lib.hid hn0
  rw [hn0] at HO hl ⊢
  have g0 : decide ((40 : Int) < (n0 : Int)) = false := decide_eq_false (by omega)
  clear h0 hn0
  go_enter Try.func6, Try.ntmps6
  go_upto_region 1 with fail
  refine with_worldT (fun W => Cb w.heap.size 24 (opcs oa) W ∧ Cb (w.heap.size + 1) 24 (opcs ob) W ∧ Below w.heap.size w W ∧ Orow W (.slice a0 n0 c0) ls) ⟨HP.out.1, HP.out.2.1, HP.out.2.2, HO.out⟩ fun W0 hW0 => ?_
  have PA := Lib.hid hW0.1
  have PB := Lib.hid hW0.2.1
  have B0 := Lib.hid hW0.2.2.1
  have H0 := Lib.hid hW0.2.2.2
  obtain ⟨pa, hpa⟩ : ∃ pa, w.heap.size = pa := ⟨_, rfl⟩
  obtain ⟨pb, hpb⟩ : ∃ pb, pa + 1 = pb := ⟨_, rfl⟩
  have B0' := Lib.hid B0.out
  clear B0 hW0 HP HO
  rw [hpa] at PA PB
  try rw [hpa]
  rw [hpb] at PB
  try rw [hpb]
  clear hpa hpb
  have HFIN := Lib.hid (fun (wq : World) (hq : Below W0.heap.size W0 wq) => below_add B0'.out hq B0'.out.size)
  have ISA := Lib.hid (opinfo oa)
  have ISB := Lib.hid (opinfo ob)
  go_wp2_with (first
    | (go_at_call 19; refine (rv_new (B := W0.heap.size) W0 (Nat.le_refl _)).mono ?_; rintro e w1 ⟨rb, rfl, q1, bb⟩; have R1 := Lib.hid q1; have B1 := Lib.hid bb; clear q1 bb)
    | (go_at_call 19; refine (rv_new2 R1.out).mono ?_; rintro e w2 ⟨sb, rfl, q1, bb⟩; have R2 := Lib.hid q1; have B2 := Lib.hid (below_add B1.out bb B1.out.size); clear q1 bb R1 B1))
  go_loopw [42] (fun s wr => ∃ (k : Nat) (cur : List Int), k ≤ n0 ∧ s = .int .i64 k ∧ Hid (Go.Proofs.Ytoppgdhidnpibaa.R2 W0.heap.size rb cur sb cur wr ∧ cntR cur ≤ 101 * k ∧ Below W0.heap.size W0 wr)) (fun s _ => n0 - (intOf s).toNat)
  case atStart => exact ⟨0, [], Nat.zero_le _, rfl, Lib.hid ⟨R2.out, by rw [cntR_nil]; exact Nat.zero_le _, B2.out⟩⟩
  case round =>
    rename_i wr
    obtain ⟨k, cur, hk, rfl, HR⟩ := hrel
    have i0 : (0 : Int) ≤ (k : Int) := by omega
    by_cases hlt : k < n0
    · obtain ⟨b, off, rfl, -, hcap, hmx, hb, hat⟩ := H0.out.opn (by rw [N0.out]; omega)
      obtain ⟨xa, xc, -, ci, cj, cx, -, -, hx⟩ := hat k (by rw [N0.out]; exact hlt)
      generalize ls[k]'(by rw [N0.out]; exact hlt) = o at *
      obtain ⟨ok, oi, oj, ox, ob, op⟩ := o
      dsimp only at ci cj cx hx
      have VX := Lib.hid (fun (wq : World) (z : Nat) (hq : Below W0.heap.size W0 wq) => rowB_arg (z := z) hx (Nat.le_refl _) hq hq.size)
      have i1 : (k : Int) < n0 := by omega
      have HC := Lib.hid (fun (wq : World) (hq : Below W0.heap.size W0 wq) => And.intro ((hq.cell (World.block_lt_of_cell? _ _ ci)).trans ci) (And.intro ((hq.cell (World.block_lt_of_cell? _ _ cj)).trans cj) ((hq.cell (World.block_lt_of_cell? _ _ cx)).trans cx)))
      obtain ⟨di, dj, dx⟩ := HC.out _ HR.out.2.2
      have hcx : ox.length ≤ 9223372036854775807 := hx.len
      clear hat hx hb ci cj cx
      have HSP := Lib.hid (fun hq => r2_splice HR.out.1 (Below.refl wr.heap.size wr).drew hq oi oj _ (VX.out _ wr.heap.size HR.out.2.2.drew))
      have HST := Lib.hid (fun h => cnt_step' cur oi oj ox (k := k) h HR.out.2.1)
      have HB9 := Lib.hid HR.out.2.2.drew
      have HCQ : Hid (cntR cur ≤ 4040) := Lib.hid (by have := HR.out.2.1; omega)
      have HSQ := Lib.hid (fun (wq wp : World) (h : Go.Proofs.Ytoppgdhidnpibaa.R2 W0.heap.size rb (spL cur oi oj ox) sb cur wq) (hq : cntR cur + ox.length ≤ 20000) (hw : Below W0.heap.size W0 wq) => r2_splice h.swap (Below.refl wq.heap.size wq).drew hq oi oj _ (VX.out _ wq.heap.size hw.drew))
      obtain ⟨L2, hL2⟩ : ∃ L2, spL cur oi oj ox = L2 := ⟨_, rfl⟩
      obtain ⟨E2, hE2⟩ : ∃ E2, spE cur oi oj ox = E2 := ⟨_, rfl⟩
      rw [hL2] at HSP HST HSQ
      rw [hE2] at HSP HSQ
      clear hL2 hE2
      obtain ⟨nx, hnx⟩ : ∃ n, ox.length = n := ⟨_, rfl⟩
      rw [hnx] at dx HSP HST hcx HC HSQ
      clear hnx VX
      by_cases h100 : nx ≤ 100
      · have g1 : decide ((nx : Int) ≤ (100 : Int)) = true := decide_eq_true (by omega)
        have hqq : cntR cur + nx ≤ 20000 := by have := HCQ.out; omega
        have HSP2 := Lib.hid (HSP.out hqq)
        have HSQ2 := Lib.hid (fun wq h hw => HSQ.out wq wq h hqq hw)
        clear HSP HSQ
        go_upto_region 8 with fail
        go_still_tail 16, (by kernel_rfl)
        change wpList _ _ _ _ _ wr.drew
        generalize wr.drew = w4 at *
        clear di dj dx
        go_upto_region 9 with (go_at_call 12; refine HSP2.out.mono ?_; rintro e w5 ⟨rfl, rr, bb⟩; have B5 := Lib.hid (HB9.out.trans bb); have HI := Lib.hid (HSQ2.out _ rr B5.out); clear rr bb; obtain ⟨di, dj, dx⟩ := HC.out _ B5.out)
        have B6 := Lib.hid B5.out.drew
        go_still_tail 16, (by kernel_rfl)
        change wpList _ _ _ _ _ w5.drew
        generalize w5.drew = w6 at *
        clear di dj dx HSQ2 HSP2
        go_wp2_with (go_at_call 12; refine HI.out.mono ?_; rintro e w7 ⟨rfl, rr, bb⟩; have R7 := Lib.hid rr.swap; have B7 := Lib.hid (B6.out.trans bb); clear rr bb)
        go_roundw
        case rel => exact ⟨k + 1, L2, by omega, by go_num, Lib.hid ⟨R7.out, HST.out h100, B7.out⟩⟩
        case measure => simp [intOf]; omega
      · have g1 : decide ((nx : Int) ≤ (100 : Int)) = false := decide_eq_false (by omega)
        go_wp2
        go_roundw
        case rel => exact ⟨k + 1, cur, by omega, by go_num, Lib.hid ⟨HR.out.1, by have := HR.out.2.1; omega, HR.out.2.2⟩⟩
        case measure => simp [intOf]; omega
    · obtain rfl : k = n0 := by omega
      have g9 : decide ((k : Int) < (k : Int)) = false := decide_eq_false (by omega)
      clear hlt hk i0 R2 B2 H0 N0
      have hcq : cntR cur ≤ 4040 := by have := HR.out.2.1; omega
      have R9 := Lib.hid HR.out.1
      have B9 := Lib.hid HR.out.2.2
      clear HR
      obtain ⟨E1, hE1⟩ : ∃ E, mpE cur oa.i oa.j (mapF oa.b oa.p) = E := ⟨_, rfl⟩
      obtain ⟨L1, hL1⟩ : ∃ L, mpL cur oa.i oa.j (mapF oa.b oa.p) = L := ⟨_, rfl⟩
      have hn1 : cntR L1 ≤ 8081 := by rw [← hL1]; have := mpL_cnt cur oa.i oa.j (mapF oa.b oa.p); omega
      obtain ⟨E2, hE2⟩ : ∃ E, mpE L1 oa.i oa.j (mapF ob.b ob.p) = E := ⟨_, rfl⟩
      obtain ⟨L2, hL2⟩ : ∃ L, mpL L1 oa.i oa.j (mapF ob.b ob.p) = L := ⟨_, rfl⟩
      obtain ⟨E3, hE3⟩ : ∃ E, mpE cur oa.i oa.j (fun id => mapF ob.b ob.p (mapF oa.b oa.p id)) = E := ⟨_, rfl⟩
      obtain ⟨L3, hL3⟩ : ∃ L, mpL cur oa.i oa.j (fun id => mapF ob.b ob.p (mapF oa.b oa.p id)) = L := ⟨_, rfl⟩
      have hn3 : cntR L3 ≤ 8081 := by rw [← hL3]; have := mpL_cnt cur oa.i oa.j (fun id => mapF ob.b ob.p (mapF oa.b oa.p id)); omega
      have HEQ : Hid (E1 = 0 → E2 = 0 → E3 = 0 → L2 = L3) := Lib.hid (fun e1 e2 e3 => by
        rw [← hL2, ← hL3, ← hL1]
        exact mpL_twice (hE1.trans e1) (by rw [hL1]; exact hE2.trans e2) (hE3.trans e3))
      have HM1 := Lib.hid (fun (wq : World) (h : Go.Proofs.Ytoppgdhidnpibaa.R2 W0.heap.size rb cur sb cur wq) => r2_mapA h (show cntR cur ≤ 10000 by omega) oa.i oa.j oa)
      have HM2 := Lib.hid (fun (wq : World) (h : Go.Proofs.Ytoppgdhidnpibaa.R2 W0.heap.size rb L1 sb cur wq) => r2_mapA h (show cntR L1 ≤ 10000 by omega) oa.i oa.j ob)
      have HM3 := Lib.hid (fun (wq : World) (h : Go.Proofs.Ytoppgdhidnpibaa.R2 W0.heap.size sb cur rb L2 wq) ha hb => r2_mapB h (show cntR cur ≤ 10000 by omega) oa.i oa.j oa ob pa pb ha hb)
      rw [hE1, hL1, show opA oa = .agg (opcs oa) from rfl] at HM1
      rw [hE2, hL2, show opA ob = .agg (opcs ob) from rfl] at HM2
      rw [hE3, hL3] at HM3
      have HKB := Lib.hid (fun (wq : World) (hq : Below W0.heap.size W0 wq) => And.intro (PA.out.below hq) (PB.out.below hq))
      have HC3 := Lib.hid hn3
      clear hE1 hL1 hE2 hL2 hE3 hL3 hcq hn1 hn3 PA PB
      have HKP := Lib.hid (fun (wq : World) (hq : Cb pa 24 (opcs oa) wq ∧ Cb pb 24 (opcs ob) wq) => And.intro (hq.1.cell 1) (hq.1.cell 2))
      obtain ⟨ai, hai⟩ : ∃ x, oa.i = x := ⟨_, rfl⟩
      obtain ⟨aj, haj⟩ : ∃ x, oa.j = x := ⟨_, rfl⟩
      have HKP : Hid (∀ (wq : World), Cb pa 24 (opcs oa) wq ∧ Cb pb 24 (opcs ob) wq → wq.cell? ⟨pa, 1, none⟩ = some (.int .i64 ai) ∧ wq.cell? ⟨pa, 2, none⟩ = some (.int .i64 aj)) := Lib.hid (by rw [← hai, ← haj]; exact HKP.out)
      rw [hai, haj] at HM1 HM2 HM3
      clear hai haj
      go_upto_region 12 with fail
      generalize opcs oa = ca at *
      generalize opcs ob = cb at *
      have D9 := Lib.hid B9.out.drew
      have K_0 := Lib.hid (HKB.out _ D9.out)
      refine h_start (S := fun W => Cb pa 24 ca W ∧ Cb pb 24 cb W) (by kernel_rfl) ?_
      refine h_val (i := 0) (v := .pointer (some ⟨rb, 0, none⟩)) rfl (by kernel_rfl) (by kernel_rfl) (by kernel_rfl) (fun _ _ _ h => h) (by rfl) (fun wz hS => ?_) K_0.out ?_
      · go_simp
      go_frame
      refine h_val (i := 1) (v := .pointer (some ⟨pa, 1, none⟩)) rfl (by kernel_rfl) (by kernel_rfl) (by kernel_rfl) (fun _ _ _ h => h) (by rfl) (fun wz hS => ?_) K_0.out ?_
      · go_simp
      go_frame
      refine h_val (i := 2) (v := .int .i64 ai) rfl (by kernel_rfl) (by kernel_rfl) (by kernel_rfl) (fun _ _ _ h => h) (by rfl) (fun wz hS => ?_) K_0.out ?_
      · have q := (HKP.out _ hS).1; go_simp
      go_frame
      refine h_val (i := 3) (v := .pointer (some ⟨pa, 2, none⟩)) rfl (by kernel_rfl) (by kernel_rfl) (by kernel_rfl) (fun _ _ _ h => h) (by rfl) (fun wz hS => ?_) K_0.out ?_
      · go_simp
      go_frame
      refine h_val (i := 4) (v := .int .i64 aj) rfl (by kernel_rfl) (by kernel_rfl) (by kernel_rfl) (fun _ _ _ h => h) (by rfl) (fun wz hS => ?_) K_0.out ?_
      · have q := (HKP.out _ hS).2; go_simp
      go_frame
      refine h_val (i := 5) (v := .agg ca) rfl (by kernel_rfl) (by kernel_rfl) (by kernel_rfl) (fun _ _ _ h => h) (by rfl) (fun wz hS => ?_) K_0.out ?_
      · exact x_load 24 (.tmp 4) rfl pa rfl _ _ _ _ hS.1 Try.underlying24 rfl ISA.out
      go_frame
      refine h_val (i := 6) (v := .func (.func 14) #[.agg ca] #[]) rfl (by kernel_rfl) (by kernel_rfl) (by kernel_rfl) (fun _ _ _ h => h) (by rfl) (fun wz hS => ?_) K_0.out ?_
      · go_simp
      go_frame
      refine h_val (i := 8) (v := .pointer (some ⟨rb, 0, none⟩)) rfl (by kernel_rfl) (by kernel_rfl) (by kernel_rfl) (fun _ _ _ h => h) (by rfl) (fun wz hS => ?_) K_0.out ?_
      · go_simp
      go_frame
      refine h_val (i := 9) (v := .pointer (some ⟨pa, 1, none⟩)) rfl (by kernel_rfl) (by kernel_rfl) (by kernel_rfl) (fun _ _ _ h => h) (by rfl) (fun wz hS => ?_) K_0.out ?_
      · go_simp
      go_frame
      refine h_val (i := 10) (v := .int .i64 ai) rfl (by kernel_rfl) (by kernel_rfl) (by kernel_rfl) (fun _ _ _ h => h) (by rfl) (fun wz hS => ?_) K_0.out ?_
      · have q := (HKP.out _ hS).1; go_simp
      go_frame
      refine h_val (i := 11) (v := .pointer (some ⟨pa, 2, none⟩)) rfl (by kernel_rfl) (by kernel_rfl) (by kernel_rfl) (fun _ _ _ h => h) (by rfl) (fun wz hS => ?_) K_0.out ?_
      · go_simp
      go_frame
      refine h_val (i := 12) (v := .int .i64 aj) rfl (by kernel_rfl) (by kernel_rfl) (by kernel_rfl) (fun _ _ _ h => h) (by rfl) (fun wz hS => ?_) K_0.out ?_
      · have q := (HKP.out _ hS).2; go_simp
      go_frame
      refine h_val (i := 13) (v := .agg cb) rfl (by kernel_rfl) (by kernel_rfl) (by kernel_rfl) (fun _ _ _ h => h) (by rfl) (fun wz hS => ?_) K_0.out ?_
      · exact x_load 24 (.tmp 5) rfl pb rfl _ _ _ _ hS.2 Try.underlying24 rfl ISB.out
      go_frame
      refine h_val (i := 14) (v := .func (.func 14) #[.agg cb] #[]) rfl (by kernel_rfl) (by kernel_rfl) (by kernel_rfl) (fun _ _ _ h => h) (by rfl) (fun wz hS => ?_) K_0.out ?_
      · go_simp
      go_frame
      refine h_all1 (i := 7) (by kernel_rfl) ?_
      refine o_call (f := 13) (args := #[.pointer (some ⟨rb, 0, none⟩), .int .i64 ai, .int .i64 aj, .func (.func 14) #[.agg ca] #[]]) rfl (by rfl) (by go_simp) ?_
      refine (HM1.out _ (R9.out.below (below_drew _))).mono ?_
      rintro e w1 ⟨rfl, rr, bb⟩
      have R_1 := Lib.hid rr
      have B_1 := Lib.hid (D9.out.trans bb)
      have K_1 := Lib.hid (HKB.out _ B_1.out)
      clear rr bb R9
      refine ⟨_, rfl, K_1.out, ?_⟩
      go_frame
      refine h_all1 (i := 15) (by kernel_rfl) ?_
      refine o_call (f := 13) (args := #[.pointer (some ⟨rb, 0, none⟩), .int .i64 ai, .int .i64 aj, .func (.func 14) #[.agg cb] #[]]) rfl (by rfl) (by go_simp) ?_
      refine (HM2.out _ R_1.out).mono ?_
      rintro e w2 ⟨rfl, rr, bb⟩
      have R_2 := Lib.hid rr
      have B_2 := Lib.hid (B_1.out.trans bb)
      have K_2 := Lib.hid (HKB.out _ B_2.out)
      clear rr bb R_1 K_1 K_0
      refine ⟨_, rfl, K_2.out, ?_⟩
      go_frame
      refine h_all1 (i := 16) (by kernel_rfl) ?_
      refine o_step rfl (by rfl) ?_
      refine wp_val (v := .int .i64 E1) (by go_simp) ?_
      refine ⟨K_2.out, ?_⟩
      go_frame
      refine h_all1 (i := 17) (by kernel_rfl) ?_
      refine o_step rfl (by rfl) ?_
      refine wp_val (v := .int .i64 E2) (by go_simp) ?_
      refine ⟨K_2.out, ?_⟩
      go_frame
      refine h_done (by kernel_rfl) ?_
      by_cases hz1 : E1 = 0
      · by_cases hz2 : E2 = 0
        · subst hz1 hz2
          have c1 := (HKP.out _ K_2.out).1
          have c2 := (HKP.out _ K_2.out).2
          have HM := Lib.hid (HM3.out _ R_2.out.swap K_2.out.1 K_2.out.2)
          clear HM1 HM2 HM3
          by_cases hz3 : E3 = 0
          · subst hz3
            obtain rfl := HEQ.out rfl rfl rfl
            go_upto_region 15 with (go_at_call 13; refine HM.out.mono ?_; rintro e w3 ⟨rfl, rr, bb⟩; have R_3 := Lib.hid rr.swap; have B_3 := Lib.hid (B_2.out.trans bb); clear rr bb)
            have HLA := Lib.hid (fun wq (h : Below w3.heap.size w3 wq) => rv_len (R_3.out.below h).fst)
            have HLB := Lib.hid (fun wq (h : Below w3.heap.size w3 wq) => rv_len (R_3.out.below h).snd)
            have HCA := Lib.hid (fun wq (h : Below w3.heap.size w3 wq) => rv_count (R_3.out.below h).fst)
            have HCB := Lib.hid (fun wq (h : Below w3.heap.size w3 wq) => rv_count (R_3.out.below h).snd)
            have HMX := Lib.hid R_3.out.fst.2.1
            have Z3 := Lib.hid (Below.refl w3.heap.size w3)
            have hc3 := HC3.out
            obtain ⟨nl, hnl⟩ : ∃ n, L2.length = n := ⟨_, rfl⟩
            have NL := Lib.hid hnl
            obtain ⟨nc, hnc⟩ : ∃ n, cntR L2 = n := ⟨_, rfl⟩
            rw [hnl] at HLA HLB HMX
            rw [hnc] at HCA HCB hc3
            have hmx := HMX.out
            clear hnl hnc HM K_2 c1 c2 HEQ
            go_wp2_with (first
              | (go_at_call 15; refine (HLA.out _ Z3.out).mono ?_; rintro e w4 ⟨rfl, bb⟩; have Z4 := Lib.hid (below_add Z3.out bb Z3.out.size); clear bb Z3)
              | (go_at_call 15; refine (HLB.out _ Z4.out).mono ?_; rintro e w5 ⟨rfl, bb⟩; have Z5 := Lib.hid (below_add Z4.out bb Z4.out.size); clear bb Z4)
              | (go_at_call 16; refine (HCA.out _ Z5.out).mono ?_; rintro e w6 ⟨rfl, bb⟩; have Z6 := Lib.hid (below_add Z5.out bb Z5.out.size); clear bb Z5)
              | (go_at_call 16; refine (HCB.out _ Z6.out).mono ?_; rintro e w7 ⟨rfl, bb⟩; have Z7 := Lib.hid (below_add Z6.out bb Z6.out.size); clear bb Z6)
              | (go_at_call 15; refine (HLA.out _ Z7.out).mono ?_; rintro e w8 ⟨rfl, bb⟩; have Z8 := Lib.hid (below_add Z7.out bb Z7.out.size); clear bb Z7))
            obtain ⟨M, hM, hM2, hM3⟩ : ∃ M : Nat, min (nl : Int) 2000 = (M : Int) ∧ M ≤ nl ∧ M ≤ 2000 := ⟨min nl 2000, by omega, by omega, by omega⟩
            rw [hM]
            clear hM
            have HAA := Lib.hid (fun wq (h : Below w3.heap.size w3 wq) x => rv_at (R_3.out.below h).fst (show cntR L2 ≤ 300000 by have := HC3.out; omega) x)
            have HAB := Lib.hid (fun wq (h : Below w3.heap.size w3 wq) x => rv_at (R_3.out.below h).snd (show cntR L2 ≤ 300000 by have := HC3.out; omega) x)
            have HAE := Lib.hid (fun (x : Nat) (hx : x < M) => (show atE L2 (x : Nat) = 0 by unfold atE; rw [if_pos (by have := NL.out; omega)]))
            have Z3 := Lib.hid (Below.refl w3.heap.size w3)
            go_loopw [136] (fun s wq => ∃ x : Nat, x ≤ M ∧ s = .int .i64 x ∧ Hid (Below w3.heap.size w3 wq)) (fun s _ => M - (intOf s).toNat)
            case atStart => exact ⟨0, Nat.zero_le _, rfl, Z8⟩
            case round =>
              obtain ⟨x, hx, rfl, HW⟩ := hrel
              by_cases hlx : x < M
              · have HA := Lib.hid (HAA.out _ HW.out (x : Nat))
                have HB := Lib.hid (fun wp (h : Below w3.heap.size w3 wp) => HAB.out wp h (x : Nat))
                rw [HAE.out x hlx] at HA HB
                generalize atV L2 (x : Nat) = v at *
                go_wp2_with (first
                  | (go_at_call 9; refine HA.out.mono ?_; rintro e w10 ⟨rfl, bb⟩; have W10 := Lib.hid (below_add HW.out bb HW.out.size); clear bb HA HW)
                  | (go_at_call 9; refine (HB.out _ W10.out).mono ?_; rintro e w11 ⟨rfl, bb⟩; have W11 := Lib.hid (below_add W10.out bb W10.out.size); clear bb HB W10))
                go_roundw
                case rel => exact ⟨x + 1, by omega, by go_num, W11⟩
                case measure => simp [intOf]; omega
              · obtain rfl : x = M := by omega
                have B_9 := Lib.hid (below_add B_3.out HW.out B_3.out.size)
                go_wp2_with (go_at_call 8; refine (known11_any _).mono ?_; rintro e w12 ⟨rfl, bb⟩; have B99 := Lib.hid (below_add B_9.out bb B_9.out.size); clear bb)
                go_ret
                exact ⟨rfl, HFIN.out _ B99.out⟩
          · have hb3 : (E3 == 0) = false := beq_eq_false_iff_ne.2 hz3
            go_wp2_with (first
              | (go_at_call 13; refine HM.out.mono ?_; rintro e w3 ⟨rfl, rr, bb⟩; have B_3 := Lib.hid (B_2.out.trans bb); clear rr bb)
              | (go_at_call 8; refine (known11_any _).mono ?_; rintro e w4 ⟨rfl, bb⟩; have B99 := Lib.hid (below_add B_3.out bb B_3.out.size); clear bb))
            go_ret
            exact ⟨rfl, HFIN.out _ B99.out⟩
        · have hb2 : (E2 == 0) = false := beq_eq_false_iff_ne.2 hz2
          subst hz1
          clear HM1 HM2 HM3
          go_wp2_with (go_at_call 8; refine (known11_any _).mono ?_; rintro e w4 ⟨rfl, bb⟩; have B99 := Lib.hid (below_add B_2.out bb B_2.out.size); clear bb)
          go_ret
          exact ⟨rfl, HFIN.out _ B99.out⟩
      · have hb1 : (E1 == 0) = false := beq_eq_false_iff_ne.2 hz1
        clear HM1 HM2 HM3
        go_wp2_with (go_at_call 8; refine (known11_any _).mono ?_; rintro e w4 ⟨rfl, bb⟩; have B99 := Lib.hid (below_add B_2.out bb B_2.out.size); clear bb)
        go_ret
        exact ⟨rfl, HFIN.out _ B99.out⟩
theorem mapped_walk (v0 : Value) (ls : List OpL) (oa ob : OpV) (w : World) (h0 : Orow w v0 ls) :
    Calls Try.prog 6 #[v0, opA oa, opA ob] w fun e w' => e = .returned (.bool true) ∧ Below w.heap.size w w' := by
  by_cases hl : ls.length ≤ 40
  · exact mapped_main v0 ls oa ob w h0 hl
  · exact mapped_long v0 ls oa ob w h0 hl
end Go.Proofs.Ytoppgdhidnpibaa
