
import Derived.Test.YtoppgdhidnpibaaQF
import Derived.StillTailTactics
/- QG: SpansBack -/
namespace Go.Proofs.Ytoppgdhidnpibaa
open Go.RowKit Go.Shelf
set_option linter.unusedVariables false
set_option maxRecDepth 100000

theorem cnt_stepB (l : List Int) (i j : Int) (xs : List Rw) {k : Nat} (hx : xs.length ≤ 100) (h : cntR l ≤ 101 * k) : cntR (spL l i j xs) ≤ 101 * (k + 1) := by
  have := spL_cnt l i j xs
  omega
set_option maxHeartbeats 2000000 in
theorem back_long (v0 : Value) (ls : List OpL) (o : OpV) (w : World) (h0 : Orow w v0 ls) (hl2 : (o.l : Int) ≤ 9223372036854775807) (hl : ¬ (ls.length ≤ 40 ∧ o.l ≤ 100)) :
    Calls Try.prog 5 #[v0, opA o] w fun e w' => e = .returned (.bool true) ∧ Below w.heap.size w w' := by
  obtain ⟨a0, c0, rfl⟩ := h0.shape
  have hlen := h0.len
  rw [show opA o = .agg (opcs o) from rfl]
  have HW := Lib.hid (show Cb w.heap.size 24 (opcs o) (w.alloc (.cells (opcs o) 24)) ∧ Below w.heap.size w (w.alloc (.cells (opcs o) 24)) from ⟨cb_new w _ _, (Below.refl w.heap.size w).alloc (Nat.le_refl _) _⟩)
  by_cases h40 : ls.length ≤ 40
  · have g0 : decide ((40 : Int) < (ls.length : Int)) = false := decide_eq_false (by omega)
    have g1 : decide ((100 : Int) < (o.l : Int)) = true := decide_eq_true (by omega)
    clear h0 hl
    go_enter Try.func5, Try.ntmps5
    go_upto_region 1 with fail
    refine with_worldT (fun W => Cb w.heap.size 24 (opcs o) W ∧ Below w.heap.size w W) HW.out fun W0 hW0 => ?_
    have PO := Lib.hid hW0.1
    have B0 := Lib.hid hW0.2
    clear hW0 HW
    go_wp2_with (first
      | (go_at_call 19; refine (rv_new (B := W0.heap.size) W0 (Nat.le_refl _)).mono ?_; rintro e w1 ⟨rb, rfl, q1, bb⟩; have B1 := Lib.hid (below_add B0.out bb B0.out.size); have c3 : w1.cell? ⟨w.heap.size, 3, none⟩ = some (.slice o.a o.l o.c) := (PO.out.below bb).cell 3; clear q1 bb B0)
      | (go_at_call 8; refine (known11_any _).mono ?_; rintro e w2 ⟨rfl, bb⟩; have B99 := Lib.hid (below_add B1.out bb B1.out.size); clear bb))
    go_ret
    exact ⟨rfl, B99.out⟩
  · have g0 : decide ((40 : Int) < (ls.length : Int)) = true := decide_eq_true (by omega)
    clear h0 hl
    go_enter Try.func5, Try.ntmps5
    go_upto_region 1 with fail
    refine with_worldT (fun W => Cb w.heap.size 24 (opcs o) W ∧ Below w.heap.size w W) HW.out fun W0 hW0 => ?_
    have B0 := Lib.hid hW0.2
    clear hW0 HW
    go_wp2_with (first
      | (go_at_call 19; refine (rv_new (B := W0.heap.size) W0 (Nat.le_refl _)).mono ?_; rintro e w1 ⟨rb, rfl, q1, bb⟩; have B1 := Lib.hid (below_add B0.out bb B0.out.size); clear q1 bb B0)
      | (go_at_call 8; refine (known11_any _).mono ?_; rintro e w2 ⟨rfl, bb⟩; have B99 := Lib.hid (below_add B1.out bb B1.out.size); clear bb))
    go_ret
    exact ⟨rfl, B99.out⟩
set_option maxHeartbeats 16000000 in
theorem back_main (v0 : Value) (ls : List OpL) (o : OpV) (xs : List Rw) (w : World) (h0 : Orow w v0 ls) (hx : Row RwC w o.s xs) (hl : ls.length ≤ 40) (hl2 : o.l ≤ 100) :
    Calls Try.prog 5 #[v0, opA o] w fun e w' => e = .returned (.bool true) ∧ Below w.heap.size w w' := by
  obtain ⟨a0, c0, rfl⟩ := h0.shape
  rw [show opA o = .agg (opcs o) from rfl]
  have HW := Lib.hid (show Cb w.heap.size 24 (opcs o) (w.alloc (.cells (opcs o) 24)) ∧ Below w.heap.size w (w.alloc (.cells (opcs o) 24)) from ⟨cb_new w _ _, (Below.refl w.heap.size w).alloc (Nat.le_refl _) _⟩)
  have HO := Lib.hid (show Orow (w.alloc (.cells (opcs o) 24)) (.slice a0 ls.length c0) ls ∧ Row RwC (w.alloc (.cells (opcs o) 24)) o.s xs from ⟨h0.below HW.out.2, hx.below HW.out.2 (Nat.le_refl _)⟩)
  have hxs : xs.length = o.l := by
    obtain ⟨a, cap, e⟩ := hx.shape
    injection e with e1 e2 e3
    exact e2.symm
  have XL := Lib.hid (show xs.length ≤ 100 by omega)
  obtain ⟨n0, hn0⟩ : ∃ n, ls.length = n := ⟨_, rfl⟩
  have N0 := Lib.hid hn0
  rw [hn0] at HO hl ⊢
  have g0 : decide ((40 : Int) < (n0 : Int)) = false := decide_eq_false (by omega)
  have g00 : decide ((100 : Int) < (o.l : Int)) = false := decide_eq_false (by omega)
  clear h0 hn0 hx hxs
  refine (callsIn_wide (n := 9)).1 ?_
  refine callsIn_of_wp_marks Try.func5 rfl trivial ?_ rfl
  simp only [Try.ntmps5, List.size_toArray, List.length_cons, List.length_nil, Nat.reduceAdd, Nat.reduceSub, Array.replicate_succ, Array.replicate_zero, List.push_toArray, List.append_toArray, List.nil_append, List.cons_append]
  refine wpIn_wide.2 ?_
  go_upto_region 1 with fail
  refine with_worldT (fun W => Cb w.heap.size 24 (opcs o) W ∧ Below w.heap.size w W ∧ Orow W (.slice a0 n0 c0) ls ∧ Row RwC W o.s xs) ⟨HW.out.1, HW.out.2, HO.out.1, HO.out.2⟩ fun W0 hW0 => ?_
  have PO := Lib.hid hW0.1
  have B0 := Lib.hid hW0.2.1
  have H0 := Lib.hid hW0.2.2.1
  have HXS := Lib.hid hW0.2.2.2
  obtain ⟨bo, hbo⟩ : ∃ b, w.heap.size = b := ⟨_, rfl⟩
  have HFIN := Lib.hid (fun (wq : World) (hq : Below W0.heap.size W0 wq) => below_add B0.out hq B0.out.size)
  clear hW0 HW HO
  rw [hbo] at PO
  try rw [hbo]
  have HBO := Lib.hid (show bo < W0.heap.size from PO.out.lt)
  clear hbo
  go_wp2_with (go_at_call 19; refine (rv_new (B := W0.heap.size) W0 (Nat.le_refl _)).mono ?_; rintro e w1 ⟨rb, rfl, q1, bb⟩; have R1 := Lib.hid q1; have B1 := Lib.hid bb; have c3 : w1.cell? ⟨bo, 3, none⟩ = some (.slice o.a o.l o.c) := (PO.out.below bb).cell 3; clear q1 bb)
  clear c3
  go_loopw [37] (fun s wr => ∃ (k : Nat) (cur : List Int), k ≤ n0 ∧ s = .int .i64 k ∧ Hid (RV W0.heap.size rb cur wr ∧ cntR cur ≤ 101 * k ∧ Below W0.heap.size W0 wr)) (fun s _ => n0 - (intOf s).toNat)
  case atStart => exact ⟨0, [], Nat.zero_le _, rfl, Lib.hid ⟨R1.out, by rw [cntR_nil]; exact Nat.zero_le _, B1.out⟩⟩
  case round =>
    rename_i wr
    obtain ⟨k, cur, hk, rfl, HR⟩ := hrel
    have i0 : (0 : Int) ≤ (k : Int) := by omega
    by_cases hlt : k < n0
    · obtain ⟨b, off, rfl, -, hcap, hmx, hb, hat⟩ := H0.out.opn (by rw [N0.out]; omega)
      obtain ⟨xa, xc, -, ci, cj, cx, -, -, hx⟩ := hat k (by rw [N0.out]; exact hlt)
      generalize ls[k]'(by rw [N0.out]; exact hlt) = oo at *
      obtain ⟨ok, oi, oj, ox, ob, op⟩ := oo
      dsimp only at ci cj cx hx
      have VX := Lib.hid (rowB_arg (z := wr.heap.size) hx (Nat.le_refl _) HR.out.2.2.drew HR.out.2.2.drew.size)
      have i1 : (k : Int) < n0 := by omega
      replace ci := (HR.out.2.2.cell (World.block_lt_of_cell? _ _ ci)).trans ci
      replace cj := (HR.out.2.2.cell (World.block_lt_of_cell? _ _ cj)).trans cj
      replace cx := (HR.out.2.2.cell (World.block_lt_of_cell? _ _ cx)).trans cx
      have hcx : ox.length ≤ 9223372036854775807 := hx.len
      clear hat hx hb
      have HSP := Lib.hid (fun hq => rv_splice HR.out.1 (Below.refl wr.heap.size wr).drew hq oi oj _ VX.out)
      have HST := Lib.hid (fun h => cnt_stepB cur oi oj ox (k := k) h HR.out.2.1)
      have HB9 := Lib.hid HR.out.2.2.drew
      have HCQ : Hid (cntR cur ≤ 4040) := Lib.hid (by have := HR.out.2.1; omega)
      obtain ⟨L2, hL2⟩ : ∃ L2, spL cur oi oj ox = L2 := ⟨_, rfl⟩
      obtain ⟨E2, hE2⟩ : ∃ E2, spE cur oi oj ox = E2 := ⟨_, rfl⟩
      rw [hL2] at HSP HST
      rw [hE2] at HSP
      clear hL2 hE2
      obtain ⟨nx, hnx⟩ : ∃ n, ox.length = n := ⟨_, rfl⟩
      rw [hnx] at cx HSP HST hcx
      clear hnx VX
      by_cases h100 : nx ≤ 100
      · have g1 : decide ((nx : Int) ≤ (100 : Int)) = true := decide_eq_true (by omega)
        have HSP2 := Lib.hid (HSP.out (by have := HCQ.out; omega))
        clear HSP
        go_upto_region 8 with fail
        go_still_tail 16, (by kernel_rfl)
        change wpList _ _ _ _ _ wr.drew
        generalize wr.drew = w4 at *
        go_wp2_with (go_at_call 12; refine HSP2.out.mono ?_; rintro e w5 ⟨rfl, rr, bb⟩; have R5 := Lib.hid rr; have B5 := Lib.hid (HB9.out.trans bb); clear rr bb)
        go_roundw
        case rel => exact ⟨k + 1, L2, by omega, by go_num, Lib.hid ⟨R5.out, HST.out h100, B5.out⟩⟩
        case measure => simp [intOf]; omega
      · have g1 : decide ((nx : Int) ≤ (100 : Int)) = false := decide_eq_false (by omega)
        go_wp2
        go_roundw
        case rel => exact ⟨k + 1, cur, by omega, by go_num, Lib.hid ⟨HR.out.1, by have := HR.out.2.1; omega, HR.out.2.2⟩⟩
        case measure => simp [intOf]; omega
    · obtain rfl : k = n0 := by omega
      have g9 : decide ((k : Int) < (k : Int)) = false := decide_eq_false (by omega)
      have hcq : cntR cur ≤ 4040 := by have := HR.out.2.1; omega
      clear hlt hk i0 R1 B1 H0 N0
      have R9 := Lib.hid HR.out.1
      have B9 := Lib.hid HR.out.2.2
      have HCQ := Lib.hid hcq
      clear HR hcq
      go_upto_region 11 with fail
      refine with_worldT (fun W => Cb wr.heap.size 22 #[.slice none 0 0] W ∧ Cb (wr.heap.size + 1) 22 #[.slice none 0 0] W ∧ Below wr.heap.size wr W) ⟨(cb_new wr _ _).alloc _, by have := cb_new (wr.alloc (.cells #[.slice none 0 0] 22)) 22 #[.slice none 0 0]; simpa using this, ((Below.refl wr.heap.size wr).alloc (Nat.le_refl _) (.cells #[.slice none 0 0] 22)).alloc (by simp) (.cells #[.slice none 0 0] 22)⟩ fun W1 hW1 => ?_
      obtain ⟨b7, hb7⟩ : ∃ b, wr.heap.size = b := ⟨_, rfl⟩
      obtain ⟨b8, hb8⟩ : ∃ b, b7 + 1 = b := ⟨_, rfl⟩
      have HZ := Lib.hid (show wr.heap.size = b7 ∧ b7 + 1 = b8 from ⟨hb7, hb8⟩)
      rw [hb7] at hW1 ⊢
      rw [hb8] at hW1 ⊢
      clear hb7 hb8
      have C7 := Lib.hid hW1.1
      have C8 := Lib.hid hW1.2.1
      have B10 := Lib.hid hW1.2.2
      clear hW1
      go_wp2_with (go_at_call 11; refine (all_any (some ⟨rb, 0, none⟩) _).mono ?_; rintro e w2 ⟨bx, rfl, hc, hge, bb⟩; have CX := Lib.hid hc; have GE := Lib.hid hge; have B11 := Lib.hid bb; clear hc hge bb)
      obtain ⟨S, hS1, hS2⟩ := R9.out.1
      have HSS := Lib.hid hS2
      have HRG := Lib.hid (show Rp S rb cur w2 ∧ (∀ k, S k → k < w2.heap.size ∧ ¬ k = b7) ∧ Cb bx 26 #[.pointer (some ⟨rb, 0, none⟩)] w2 ∧ (bx < w2.heap.size ∧ ¬ bx = b7) ∧ Go.Proofs.Ytoppgdhidnpibaa.wq cur ≤ 4000000000 ∧ b7 < w2.heap.size from by
        have z1 := HZ.out
        have z2 := B10.out
        have z3 := B11.out
        have z4 := C7.out.lt
        have z5 := GE.out
        have hz2 : Below b7 wr W1 := z2
        have hsz : wr.heap.size ≤ W1.heap.size := z2.size
        have hsz2 : W1.heap.size ≤ w2.heap.size := z3.size
        refine ⟨(hS1.below (by rw [z1.1]; exact z2)).below z3, fun q hq => ?_, CX.out, ⟨CX.out.lt, by omega⟩, R9.out.wq (by have := HCQ.out; omega), by omega⟩
        have := (hS2 q hq).2
        exact ⟨by omega, by omega⟩)
      have HI0 := Lib.hid (show ApK w2 b7 [] (.slice none 0 0) w2 from ⟨C7.out.below B11.out, World.ownsRow_nil _ _ _ _, KpX.refl _ _ _⟩)
      have HNN := Lib.hid (show (rl cur).length ≤ 400000 from by have := HCQ.out; unfold cntR at this; omega)
      have C8' := Lib.hid (C8.out.below B11.out)
      have B12 := Lib.hid (show Below W0.heap.size W0 w2 from below_add (below_add B9.out (by rw [HZ.out.1]; exact B10.out) B9.out.size) B11.out (Nat.le_trans B9.out.size (by have := B10.out.size; omega)))
      have Z12 := Lib.hid (show W0.heap.size ≤ b7 ∧ b8 < w2.heap.size from ⟨by have := B9.out.size; have := HZ.out.1; omega, C8'.out.lt⟩)
      clear C7 C8 B10 B11 GE CX hS1 hS2
      refine (wpIn_wide (n := 9)).1 ?_
      refine act_gen fun T hT => ?_
      refine wpIn_rangeFunc_ownH (α := Ck) (encs := fun x => #[cvs x]) (Kp := KpX w2.heap.size (fun k => k = b7)) (S := fun ys => ys = rl cur) (Sp := fun pre => pre <+: rl cur) (N := (rl cur).length) (w0 := w2) rfl (by decide)
        (gf := 27) (lb := #[.pointer (some ⟨bx, 0, none⟩)]) (by rw [← hT]; rfl) trivial (enters_of Try.func27 (by kernel_rfl) rfl) ?seq (fun h k => h.trans k) ?kb (Below.refl _ _) (fun _ => rfl)
        (fun pre W => ∃ v, ApK w2 b7 pre v W)
        (fun c _ W => False)
        (fun pre A B' row ⟨v, h⟩ hg hr => ⟨v, h.grown hg hr⟩)
        (fun c pre A B' row h hg hr => h.elim)
        ⟨_, HI0.out⟩
        (fun x a' W => ∃ Bx, w2.heap.size ≤ Bx ∧ Cb Bx 44 (crow x) W ∧ a' = { tmps := (T.tmps.setIfInBounds 67 (cvs x)).setIfInBounds 9 (.pointer (some ⟨Bx, 0, none⟩)), defers := [] })
        (fun x a' _ X Y row hs hg hr => by obtain ⟨Bx, h1, h2, h3⟩ := hs; exact ⟨Bx, h1, cb_grown h2 hg (fun r e => (hr r e).2), h3⟩)
        ?assign ?body ?done ?stop
      case seq =>
        intro ln J Jx W hW hJ hJx hY h0
        exact all1_sp (n0 := w2.heap.size) (X := fun k => k = b7) (S := S) (rb := rb) (bx := bx) (l := cur) 8 ln (by decide) J Jx (fun pre A A' hA hb => hJ pre A A' none hA ⟨hb.os, hb.tape, hb.output, hb.size, fun k hk _ => hb.block k hk⟩ (fun r e => by cases e)) HRG.out.2.1 HRG.out.2.2.2.1 hY W (HRG.out.2.2.1.below hW) (HRG.out.1.below hW) HRG.out.2.2.2.2.1 h0
      case kb =>
        intro W k o1 o2 hk ho h1 h2
        exact KpX.putObj (o := o1) W o2 hk
      case assign =>
        rintro ln pre x W K ⟨v, hI⟩ hK
        subst hT
        have hxl := xc_size x
        have V4 := Lib.hid (cb_new W 44 czr)
        refine regionIn_of_plain (fun _ _ h => h) rfl ?_
        go_wp2_with (refine wpList_store_row rfl 44 (.tmp 9) (.tmp 67) rfl W.heap.size (crow x) rfl rfl _ _ V4.out (xinfo hxl) (by rw [hxl]; exact xz_size) (crow_one _) ?_)
        have hb : Below W.heap.size W ((W.alloc (.cells czr 44)).setRow W.heap.size (crow x)) := below_row ((Below.refl _ W).alloc (Nat.le_refl _) _) (Nat.le_refl _)
        exact hK _ _ ((keeps_off (S := fun _ => False) (Off.of_below hb) (fun k h => h.elim)).from _) (KpX.of_below hb) ⟨v, hI.below hb⟩ ⟨W.heap.size, hI.kp.size, V4.out.set _, rfl⟩
      case body =>
        rintro ln pre x a' W hln ⟨r, hr⟩ ⟨v, hI⟩ ⟨Bx, hBx, hcx, rfl⟩ hlt
        subst hT
        obtain ⟨va, vc, rfl, -, -⟩ := own_shape hI.own
        obtain ⟨ie, hie, hz, hs, hby⟩ := info_sp
        have hpl : pre.length ≤ 400000 := by have := HNN.out; omega
        have FIN := Lib.hid (fun (w5 : World) (hb : Below W.heap.size W w5) (g6 cap6 : Nat) (w6 : World) => apk_next (w6 := w6) hI x HRG.out.2.2.2.2.2 hb g6 cap6)
        obtain ⟨cx, hcx2⟩ : ∃ cx, crow x = cx := ⟨_, rfl⟩
        have SX := Lib.hid (show cx.size = 2 by rw [← hcx2]; rfl)
        have HBS := Lib.hid (built_one 44 ie hie K_X.z hz 2 hs (by decide) (by decide) (crow x).toList rfl)
        rw [show (crow x).toList.toArray = crow x from rfl] at HBS
        have hones : ∀ v ∈ (crow x).toList, v.oneCell' = true := fun v hv => Array.all_eq_true_iff_forall_mem.1 (crow_one x) v (by simpa using hv)
        have hrl : (crow x).toList.length = 1 * 2 := rfl
        rw [hcx2] at HBS FIN hcx hones hrl
        have V5 := Lib.hid hcx
        have c0 : W.cell? ⟨b7, 0, none⟩ = some (.slice va pre.length vc) := hI.c.cell 0
        have S6 := Lib.hid (show (W.alloc (.cells cx 44)).ownsRow w2.heap.size 44 2 (.slice va pre.length vc) pre.length (Go.Proofs.Ytoppgdhidnpibaa.fl CkC pre) from owns_kept hI.own (fun g hg => heap_alloc_old W _ (own_lt7 hI.own hg)))
        have HNB := Lib.hid (heap_alloc_new W (.cells cx 44))
        have hzs : K_X.z.cells.size = 2 := rfl
        have hbs : w2.heap.size ≤ (W.alloc (.cells cx 44)).heap.size := by rw [World.size_alloc]; have := hI.kp.size; omega
        have hmx : pre.length + 1 ≤ maxLen := by unfold maxLen; omega
        have hmy : (pre.length + 1) * 16 ≤ 140737488355328 := by omega
        have CL := Lib.hid (hI.c.alloc (.cells cx 44))
        have hob : ∀ g, (Value.slice va pre.length vc).ownBlock = some g → w2.heap.size ≤ g := fun g hg => own_base hI.own hg
        have hblt := Lib.hid HRG.out.2.2.2.2.2
        have HBW := Lib.hid (below_alloc1 W (.cells cx 44))
        clear hI hcx hlt
        refine wpIn_block ?_
        refine regionIn_of_plain (fun _ _ h => h) rfl ?_
        rw [show cvs x = .agg cx by unfold cvs; rw [hcx2]]
        clear hcx2
        try simp only [List.setIfInBounds_toArray, List.set_cons_succ, List.set_cons_zero]
        go_wp2_with (first
          | (refine wpList_load_roww 44 (.tmp 9) rfl Bx rfl (by rfl) _ _ _ _ V5.out Try.underlying44 rfl (xinfo SX.out) ?_)
          | (refine wpList_buildSliceL rfl 22 44 1 _ rfl W.heap.size rfl _ rfl Try.underlying22 [(0, .agg cx)] rfl cx HBS.out ?_)
          | (at_builtin; refine wpList_append_lies _ rfl (.tmp 68) (.tmp 70) 22 rfl w2.heap.size 44 ie K_X.z 2 16 Try.underlying22 hie hz hs hby hzs (by decide) (.slice va pre.length vc) pre.length (Go.Proofs.Ytoppgdhidnpibaa.fl CkC pre) rfl S6.out ⟨W.heap.size, 0, none⟩ 1 1 cx.toList rfl hrl (World.news_of_block HNB.out) hones (by decide) hmx hmy hbs _ rfl ?_; intro g6 cap6 w6 ho6 hg6 ha6 hl6; have C6 := (hg6.block b7 CL.out.lt (fun e => by have := hob _ e.symm; have := hblt.out; omega)).trans CL.out; have c6 : w6.cell? ⟨b7, 0, none⟩ = some (.slice va pre.length vc) := Cb.cell C6 0; have f6 := Cb.frozen C6 0; have HO6 := Lib.hid ho6; have HG6 := Lib.hid hg6; have HL6 := Lib.hid hl6; have HC6 := Lib.hid C6; clear ho6 hg6 ha6 hl6 C6))
        exact FIN.out _ HBW.out _ _ _ HO6.out HG6.out HL6.out HC6.out
      case stop =>
        rintro D c pre W hD _ h hDW
        exact h.elim
      case done =>
        rintro D ys W hD hS ⟨v, hI⟩ hDW
        obtain rfl : ys = rl cur := hS
        subst hT

        have PF := Lib.hid (show RX (Xz W0.heap.size b7 W.heap.size) rb cur W ∧ Cb b7 22 #[v] W ∧ W.ownsRow w2.heap.size 44 2 v (rl cur).length (Go.Proofs.Ytoppgdhidnpibaa.fl CkC (rl cur)) ∧ Cb b8 22 #[.slice none 0 0] W ∧ W.heap[D]? = some (.deferred (some [])) ∧ Cb bo 24 (opcs o) W ∧ Below W0.heap.size W0 W ∧ w2.heap.size ≤ D ∧ D < W.heap.size ∧ w2.heap.size ≤ W.heap.size from by
          have k1 := hI.kp.off
          have z1 := HZ.out
          have z2 := Z12.out
          refine ⟨⟨⟨S, hI.kp.rp HRG.out.1 HRG.out.2.1, fun q hq => ?_⟩, R9.out.2⟩, hI.c, hI.own, hI.kp.cb C8'.out ⟨by omega, by omega⟩, hDW, ?_, ?_, hD, lt_of_heap hDW, hI.kp.size⟩
          · have e1 := HSS.out q hq
            have e2 := HRG.out.2.1 q hq
            have e3 := hI.kp.size
            exact ⟨⟨e1.1, by omega⟩, by omega⟩
          · exact hI.kp.cb (PO.out.below B12.out) ⟨by have := HBO.out; have := B12.out.size; omega, by have := HBO.out; omega⟩
          · exact B12.out.trans (k1.below (fun q hq => by
              rcases hq with rfl | hq
              · exact z2.1
              · have := B12.out.size; omega) B12.out.size))
        clear hI hDW hD HRG HI0 C8' B12 HNN
        obtain ⟨va, vc, rfl, -, -⟩ := own_shape PF.out.2.2.1
        have HKEEP := Lib.hid (fun (wq : World) (hq : Off (Xz W0.heap.size b7 W.heap.size) W wq) => (show Cb b7 22 #[.slice va (rl cur).length vc] wq ∧ wq.ownsRow w2.heap.size 44 2 (.slice va (rl cur).length vc) (rl cur).length (Go.Proofs.Ytoppgdhidnpibaa.fl CkC (rl cur)) ∧ Cb b8 22 #[.slice none 0 0] wq ∧ wq.heap[D]? = some (.deferred (some [])) ∧ Cb bo 24 (opcs o) wq ∧ Below W0.heap.size W0 wq ∧ W.heap.size ≤ wq.heap.size from by
          obtain ⟨q1, q2, q3, q4, q5, q6, q7, q8, q9, q10⟩ := PF.out
          have z1 := HZ.out
          have z2 := Z12.out
          have z3 := HBO.out
          refine ⟨q2.off hq (fun h => h.2 ⟨Nat.le_refl _, by omega⟩), owns_kept q3 (fun g hg => hq.block g (own_lt7 q3 hg) (fun h => h.2 ⟨by have := own_base q3 hg; omega, own_lt7 q3 hg⟩)), q4.off hq (fun h => h.2 ⟨by omega, by omega⟩), (hq.block D q9 (fun h => h.2 ⟨by omega, q9⟩)).trans q5, q6.off hq (fun h => by have := h.1; omega), q7.trans (hq.below (fun q h => h.1) q7.size), hq.size⟩))
        have HXM := Lib.hid (fun (z : Nat) (hz : W.heap.size ≤ z) => (show ∀ q, Xz W0.heap.size b7 z q → Xz W0.heap.size b7 W.heap.size q from fun q h => ⟨h.1, fun hh => h.2 ⟨hh.1, Nat.lt_of_lt_of_le hh.2 hz⟩⟩))
        have HRX := Lib.hid PF.out.1
        have HEND := Lib.hid (fun (wq wk : World) (hq : Off (Xz W0.heap.size b7 W.heap.size) W wq) (hk : Below wq.heap.size wq wk) => (show Below w.heap.size w wk ∧ wk.heap[D]? = some (.deferred (some [])) ∧ w.heap.size ≤ D from ⟨HFIN.out _ (below_add (HKEEP.out _ hq).2.2.2.2.2.1 hk (HKEEP.out _ hq).2.2.2.2.2.1.size), (hk.block D (lt_of_heap (HKEEP.out _ hq).2.2.2.1)).trans (HKEEP.out _ hq).2.2.2.1, by have := PF.out.2.2.2.2.2.2.2.1; have := Z12.out; have := HZ.out; have := B0.out.size; omega⟩))
        have ZW := Lib.hid (show b7 < W.heap.size ∧ b8 < W.heap.size ∧ b7 ≠ b8 ∧ w2.heap.size ≤ W.heap.size ∧ w2.heap.size ≤ D by have := PF.out.2.2.2.2.2.2.2.2.2; have := PF.out.2.2.2.2.2.2.2.1; have := Z12.out; have := HZ.out; omega)
        have RV3 := Lib.hid (PF.out.1.rv (B := 0) (fun _ _ => Nat.zero_le _))
        have HNL := Lib.hid R9.out.2
        have HCR := Lib.hid (cnt_part cur o.i o.j)
        clear PF
        gi_wp2
        go_upto_region 15 with (go_at_call 15; refine (rv_len RV3.out).mono ?_; rintro e w4 ⟨rfl, bb⟩; have O4 := Lib.hid (Off.of_below (S := Xz W0.heap.size b7 W.heap.size) bb); have R4 := Lib.hid (RV3.out.below bb); have RX4 := Lib.hid (fun z => (HRX.out.mono (Y := Xz W0.heap.size b7 z) (fun k hk h => ⟨h.1, fun hh => h.2 ⟨hh.1, hk⟩⟩)).below bb); clear bb)
        have c1 : w4.cell? ⟨bo, 1, none⟩ = some (.int .i64 o.i) := (HKEEP.out _ O4.out).2.2.2.2.1.cell 1
        have c2 : w4.cell? ⟨bo, 2, none⟩ = some (.int .i64 o.j) := (HKEEP.out _ O4.out).2.2.2.2.1.cell 2
        cases hr : rcB cur.length o.i o.j with
        | false =>
          have HO := Lib.hid (rv_over_no R4.out o.i o.j hr)
          clear hr
          go_wp2_with (first
            | (go_at_call 10; refine HO.out.mono ?_; rintro e w5 ⟨rfl, bb⟩; have O5 := Lib.hid (O4.out.seq (Off.of_below bb)); clear bb)
            | (go_at_call 8; refine (known11_any _).mono ?_; rintro e wk ⟨rfl, bb⟩; obtain ⟨e1, e2, e3⟩ := HEND.out _ _ O5.out bb; clear bb))
          have b5 := e1.trans (belowK_b (w := w) (Nat.le_refl _) wk D _ (.deferred none) e3 e2 rfl rfl)
          refine ⟨by simp, .inl ⟨_, _, rfl, run_takeDeferred e2, ?_⟩⟩
          refine ⟨.bool true, ?_, rfl, b5⟩
          simp [results, Try.f5, go_sem]
        | true =>
          obtain ⟨a1, a2, a3⟩ := (rcB_iff _ _ _).1 hr
          have hmx := HNL.out.1
          obtain ⟨i', hi'⟩ : ∃ k : Nat, o.i = k := ⟨o.i.toNat, by omega⟩
          obtain ⟨j', hj'⟩ : ∃ k : Nat, o.j = k := ⟨o.j.toNat, by omega⟩
          have hov := rv_over R4.out (by have := HCQ.out; omega) i' j' (by omega) (by omega)
          rw [← hi', ← hj'] at hov
          have HO := Lib.hid hov
          have HBF := Lib.hid (fun he => back_facts (xs := xs) hmx HNL.out.2 hr he)
          obtain ⟨ai, hai⟩ : ∃ x, o.i = x := ⟨_, rfl⟩
          obtain ⟨aj, haj⟩ : ∃ x, o.j = x := ⟨_, rfl⟩
          have HK2 := Lib.hid (fun (wq : World) (hq : Off (Xz W0.heap.size b7 W.heap.size) W wq) => (show wq.cell? ⟨bo, 1, none⟩ = some (.int .i64 ai) ∧ wq.cell? ⟨bo, 2, none⟩ = some (.int .i64 aj) ∧ wq.cell? ⟨bo, 3, none⟩ = some o.s from ⟨by rw [← hai]; exact (HKEEP.out _ hq).2.2.2.2.1.cell 1, by rw [← haj]; exact (HKEEP.out _ hq).2.2.2.2.1.cell 2, (HKEEP.out _ hq).2.2.2.2.1.cell 3⟩))
          rw [hai] at a1 a2 c1 HO HBF HCR
          rw [haj] at a2 a3 c2 HO HBF HCR
          clear hr hi' hj' hov hai haj
          obtain ⟨n1, hn1⟩ : ∃ n, cur.length = n := ⟨_, rfl⟩
          have HN1 := Lib.hid hn1
          rw [hn1] at hmx a3 ⊢
          clear hn1
          obtain ⟨P, hP⟩ : ∃ P, rl (part cur ai aj) = P := ⟨_, rfl⟩
          rw [hP] at HO HBF HCR
          clear hP
          have OS := Lib.hid (show o.s = .slice o.a o.l o.c from rfl)
          obtain ⟨sv, hsv⟩ : ∃ v, o.s = v := ⟨_, rfl⟩
          have HXV : Hid (Row RwC W0 sv xs) := Lib.hid (by rw [← hsv]; exact HXS.out)
          rw [hsv] at HK2
          clear hsv
          go_upto_region 16 with (go_at_call 10; refine HO.out.mono ?_; rintro e w5 ⟨pv, b, rfl, hb, ho, bb⟩; have O5 := Lib.hid (O4.out.seq (Off.of_below (S := Xz W0.heap.size b7 W.heap.size) bb)); have HP5 := Lib.hid (And.intro hb ho); have RX5 := Lib.hid (fun z => (RX4.out z).below bb); have Z45 := Lib.hid (And.intro O4.out.size bb.size); clear hb ho bb)
          obtain ⟨pa, pc, rfl, -, -⟩ := own_shape HP5.out.2
          have HXW := Lib.hid (fun (wq : World) (h : w5.heap.size ≤ wq.heap.size) k (hk : wq.heap.size ≤ k) => (show Xz W0.heap.size b7 w5.heap.size k from ⟨by have := Z12.out; have := HZ.out; have := (HKEEP.out _ O5.out).2.2.2.2.2.1.size; omega, fun hh => by have := hh.2; omega⟩))
          have HOX := Lib.hid (fun k (h : Xz W0.heap.size b7 w5.heap.size k) => HXM.out w5.heap.size (Nat.le_trans Z45.out.1 Z45.out.2) k h)
          have HPX := Lib.hid (fun (wq : World) (hq : Off (Xz W0.heap.size b7 w5.heap.size) w5 wq) (z : Nat) => (show RowX (Xz W0.heap.size b7 w5.heap.size) z wq (.slice pa P.length pc) (P.map fun y => ⟨(y.n : Nat), y.d⟩) from fun W9 hW9 => by
            have hX9 := hq.seq (hW9.mono (fun k h => h.1))
            exact rowB_own (B := 0) (z := 0) (owns_kept HP5.out.2 (fun g hg => hX9.block g (own_lt7 HP5.out.2 hg) (fun h => h.2 ⟨by have := own_base HP5.out.2 hg; have := HP5.out.1; have := Z45.out.1; have := ZW.out; omega, own_lt7 HP5.out.2 hg⟩))) (Nat.zero_le _) W9 ((Off.refl _ _))))
          have HSA := Lib.hid (rx_splice (RX5.out w5.heap.size) (Below.refl w5.heap.size w5) (HXW.out w5 (Nat.le_refl _)) (xs := xs) (by have := HCQ.out; have := XL.out; omega) ai aj sv (rowX_arg HXV.out (HKEEP.out _ O5.out).2.2.2.2.2.1 (fun k h => h.1)))
          obtain ⟨E1, hE1⟩ : ∃ E, spE cur ai aj xs = E := ⟨_, rfl⟩
          rw [hE1] at HSA HBF
          obtain ⟨d1, d2, d3⟩ := HK2.out _ O5.out
          by_cases hz1 : E1 = 0
          · subst hz1
            obtain ⟨L1, m, f1, f2, f3, f4⟩ := HBF.out rfl
            rw [f1] at HSA
            have hc1 : cntR L1 ≤ 4200 := by rw [← f1]; have := spL_cnt cur ai aj xs; have := HCQ.out; have := XL.out; omega
            have HC1 := Lib.hid hc1
            clear HBF f1 hc1
            go_upto_region 18 with (go_at_call 12; refine HSA.out.mono ?_; rintro e w6 ⟨rfl, rr, oo⟩; have R6 := Lib.hid rr; have X6 := Lib.hid oo; have O6 := Lib.hid (O5.out.seq (oo.mono HOX.out)); clear rr oo)
            have HL6 := Lib.hid (rv_len (R6.out.rv (B := 0) (fun _ _ => Nat.zero_le _)))
            have hm2 := R6.out.2.1
            obtain ⟨n2, hn2⟩ : ∃ n, L1.length = n := ⟨_, rfl⟩
            rw [hn2] at HL6 hm2 f2
            rw [HN1.out] at f2
            clear hn2 HSA d1 d2 d3
            go_upto_region 19 with (go_at_call 15; refine HL6.out.mono ?_; rintro e w7 ⟨rfl, bb⟩; have R7 := Lib.hid (R6.out.below bb); have X7 := Lib.hid (X6.out.seq (Off.of_below bb)); have O7 := Lib.hid (O6.out.seq (Off.of_below bb)); clear bb)
            obtain ⟨d1, d2, d3⟩ := HK2.out _ O7.out
            have HSB := Lib.hid (rx_splice R7.out (Below.refl w7.heap.size w7) (HXW.out w7 X7.out.size) (xs := P.map fun y => ⟨(y.n : Nat), y.d⟩) (by rw [List.length_map]; have := HC1.out; have := HCQ.out; have := HCR.out; omega) ai (aj + m) (.slice pa P.length pc) (HPX.out w7 X7.out _))
            rw [f3, f4] at HSB
            try rw [f2]
            have hmr : -536870912 ≤ m ∧ m ≤ 536870912 := by omega
            obtain ⟨hmr1, hmr2⟩ := hmr
            clear f2 f3 f4
            go_upto_region 21 with (first
              | (go_at_call 12; refine HSB.out.mono ?_; rintro e w8 ⟨rfl, rr, oo⟩; have R8 := Lib.hid rr; have O8 := Lib.hid (O7.out.seq (oo.mono HOX.out)); have HL8 := Lib.hid (rv_len (rr.rv (B := 0) (fun _ _ => Nat.zero_le _))); rw [HN1.out] at HL8; clear rr oo)
              | (go_at_call 15; refine HL8.out.mono ?_; rintro e w9 ⟨rfl, bb⟩; have R9' := Lib.hid (R8.out.below bb); have O9 := Lib.hid (O8.out.seq (Off.of_below bb)); clear bb))
            go_wp2_with (go_at_call 11; refine (all_any (some ⟨rb, 0, none⟩) _).mono ?_; rintro e w10 ⟨bx2, rfl, hc, hge, bb⟩; have CX := Lib.hid hc; have GE := Lib.hid hge; have B10 := Lib.hid bb; have O10 := Lib.hid (O9.out.seq (Off.of_below bb)); clear hc hge bb)
            obtain ⟨S9, hS1, hS2⟩ := R9'.out.1
            have HRG := Lib.hid (show Rp S9 rb cur w10 ∧ (∀ k, S9 k → k < w10.heap.size ∧ ¬ k = b8) ∧ Cb bx2 26 #[.pointer (some ⟨rb, 0, none⟩)] w10 ∧ (bx2 < w10.heap.size ∧ ¬ bx2 = b8) ∧ Go.Proofs.Ytoppgdhidnpibaa.wq cur ≤ 4000000000 ∧ b8 < w10.heap.size from by
              have z1 := ZW.out
              have z2 := B10.out.size
              have z3 := GE.out
              have z4 := O9.out.size
              have z5 := (HKEEP.out _ O9.out).2.2.2.2.2.2
              have z6 := Z45.out
              have z7 := HZ.out
              refine ⟨hS1.below B10.out, fun q hq => ?_, CX.out, ⟨CX.out.lt, by omega⟩, R9.out.wq (by have := HCQ.out; omega), by omega⟩
              have e1 := hS2 q hq
              exact ⟨by omega, fun e => e1.1.2 ⟨by omega, by omega⟩⟩)
            have HI0 := Lib.hid (show ApK w10 b8 [] (.slice none 0 0) w10 from ⟨(HKEEP.out _ O10.out).2.2.1, World.ownsRow_nil _ _ _ _, KpX.refl _ _ _⟩)
            have HNN := Lib.hid (show (rl cur).length ≤ 400000 from by have := HCQ.out; unfold cntR at this; omega)
            clear R6 X6 O6 HL6 R7 X7 O7 HSB HL8 R8 O8 CX GE d1 d2 d3 hS1 hS2 O9 HK2 HXV RX4 RX5 RV3 R4 HO

            refine (wpIn_wide (n := 9)).1 ?_
            refine act_gen fun T hT => ?_
            refine wpIn_rangeFunc_ownH (α := Ck) (encs := fun x => #[cvs x]) (Kp := KpX w10.heap.size (fun k => k = b8)) (S := fun ys => ys = rl cur) (Sp := fun pre => pre <+: rl cur) (N := (rl cur).length) (w0 := w10) rfl (by decide)
              (gf := 27) (lb := #[.pointer (some ⟨bx2, 0, none⟩)]) (by rw [← hT]; rfl) trivial (enters_of Try.func27 (by kernel_rfl) rfl) ?seq (fun h k => h.trans k) ?kb (Below.refl _ _) (fun _ => rfl)
              (fun pre W => ∃ v, ApK w10 b8 pre v W)
              (fun c _ W => False)
              (fun pre A B' row ⟨v, h⟩ hg hr => ⟨v, h.grown hg hr⟩)
              (fun c pre A B' row h hg hr => h.elim)
              ⟨_, HI0.out⟩
              (fun x a' W => ∃ Bx, w10.heap.size ≤ Bx ∧ Cb Bx 44 (crow x) W ∧ a' = { tmps := (T.tmps.setIfInBounds 119 (cvs x)).setIfInBounds 14 (.pointer (some ⟨Bx, 0, none⟩)), defers := [] })
              (fun x a' _ X Y row hs hg hr => by obtain ⟨Bx, h1, h2, h3⟩ := hs; exact ⟨Bx, h1, cb_grown h2 hg (fun r e => (hr r e).2), h3⟩)
              ?assign ?body ?done ?stop
            case seq =>
              intro ln J Jx W hW hJ hJx hY h0
              exact all1_sp (n0 := w10.heap.size) (X := fun k => k = b8) (S := S9) (rb := rb) (bx := bx2) (l := cur) 8 ln (by decide) J Jx (fun pre A A' hA hb => hJ pre A A' none hA ⟨hb.os, hb.tape, hb.output, hb.size, fun k hk _ => hb.block k hk⟩ (fun r e => by cases e)) HRG.out.2.1 HRG.out.2.2.2.1 hY W (HRG.out.2.2.1.below hW) (HRG.out.1.below hW) HRG.out.2.2.2.2.1 h0
            case kb =>
              intro W k o1 o2 hk ho h1 h2
              exact KpX.putObj (o := o1) W o2 hk
            case assign =>
              rintro ln pre x W K ⟨v, hI⟩ hK
              subst hT
              have hxl := xc_size x
              have V4 := Lib.hid (cb_new W 44 czr)
              refine regionIn_of_plain (fun _ _ h => h) rfl ?_
              go_wp2_with (refine wpList_store_row rfl 44 (.tmp 14) (.tmp 119) rfl W.heap.size (crow x) rfl rfl _ _ V4.out (xinfo hxl) (by rw [hxl]; exact xz_size) (crow_one _) ?_)
              have hb : Below W.heap.size W ((W.alloc (.cells czr 44)).setRow W.heap.size (crow x)) := below_row ((Below.refl _ W).alloc (Nat.le_refl _) _) (Nat.le_refl _)
              exact hK _ _ ((keeps_off (S := fun _ => False) (Off.of_below hb) (fun k h => h.elim)).from _) (KpX.of_below hb) ⟨v, hI.below hb⟩ ⟨W.heap.size, hI.kp.size, V4.out.set _, rfl⟩
            case body =>
              rintro ln pre x a' W hln ⟨r, hr⟩ ⟨v, hI⟩ ⟨Bx, hBx, hcx, rfl⟩ hlt
              subst hT
              obtain ⟨va, vc, rfl, -, -⟩ := own_shape hI.own
              obtain ⟨ie, hie, hz, hs, hby⟩ := info_sp
              have hpl : pre.length ≤ 400000 := by have := HNN.out; omega
              have FIN := Lib.hid (fun (w5 : World) (hb : Below W.heap.size W w5) (g6 cap6 : Nat) (w6 : World) => apk_next (w6 := w6) hI x HRG.out.2.2.2.2.2 hb g6 cap6)
              obtain ⟨cx, hcx2⟩ : ∃ cx, crow x = cx := ⟨_, rfl⟩
              have SX := Lib.hid (show cx.size = 2 by rw [← hcx2]; rfl)
              have HBS := Lib.hid (built_one 44 ie hie K_X.z hz 2 hs (by decide) (by decide) (crow x).toList rfl)
              rw [show (crow x).toList.toArray = crow x from rfl] at HBS
              have hones : ∀ v ∈ (crow x).toList, v.oneCell' = true := fun v hv => Array.all_eq_true_iff_forall_mem.1 (crow_one x) v (by simpa using hv)
              have hrl : (crow x).toList.length = 1 * 2 := rfl
              rw [hcx2] at HBS FIN hcx hones hrl
              have V5 := Lib.hid hcx
              have c0 : W.cell? ⟨b8, 0, none⟩ = some (.slice va pre.length vc) := hI.c.cell 0
              have S6 := Lib.hid (show (W.alloc (.cells cx 44)).ownsRow w10.heap.size 44 2 (.slice va pre.length vc) pre.length (Go.Proofs.Ytoppgdhidnpibaa.fl CkC pre) from owns_kept hI.own (fun g hg => heap_alloc_old W _ (own_lt7 hI.own hg)))
              have HNB := Lib.hid (heap_alloc_new W (.cells cx 44))
              have hzs : K_X.z.cells.size = 2 := rfl
              have hbs : w10.heap.size ≤ (W.alloc (.cells cx 44)).heap.size := by rw [World.size_alloc]; have := hI.kp.size; omega
              have hmx : pre.length + 1 ≤ maxLen := by unfold maxLen; omega
              have hmy : (pre.length + 1) * 16 ≤ 140737488355328 := by omega
              have CL := Lib.hid (hI.c.alloc (.cells cx 44))
              have hob : ∀ g, (Value.slice va pre.length vc).ownBlock = some g → w10.heap.size ≤ g := fun g hg => own_base hI.own hg
              have hblt := Lib.hid HRG.out.2.2.2.2.2
              have HBW := Lib.hid (below_alloc1 W (.cells cx 44))
              clear hI hcx hlt
              refine wpIn_block ?_
              refine regionIn_of_plain (fun _ _ h => h) rfl ?_
              rw [show cvs x = .agg cx by unfold cvs; rw [hcx2]]
              clear hcx2
              try simp only [List.setIfInBounds_toArray, List.set_cons_succ, List.set_cons_zero]
              go_wp2_with (first
                | (refine wpList_load_roww 44 (.tmp 14) rfl Bx rfl (by rfl) _ _ _ _ V5.out Try.underlying44 rfl (xinfo SX.out) ?_)
                | (refine wpList_buildSliceL rfl 22 44 1 _ rfl W.heap.size rfl _ rfl Try.underlying22 [(0, .agg cx)] rfl cx HBS.out ?_)
                | (at_builtin; refine wpList_append_lies _ rfl (.tmp 120) (.tmp 122) 22 rfl w10.heap.size 44 ie K_X.z 2 16 Try.underlying22 hie hz hs hby hzs (by decide) (.slice va pre.length vc) pre.length (Go.Proofs.Ytoppgdhidnpibaa.fl CkC pre) rfl S6.out ⟨W.heap.size, 0, none⟩ 1 1 cx.toList rfl hrl (World.news_of_block HNB.out) hones (by decide) hmx hmy hbs _ rfl ?_; intro g6 cap6 w6 ho6 hg6 ha6 hl6; have C6 := (hg6.block b8 CL.out.lt (fun e => by have := hob _ e.symm; have := hblt.out; omega)).trans CL.out; have c6 : w6.cell? ⟨b8, 0, none⟩ = some (.slice va pre.length vc) := Cb.cell C6 0; have f6 := Cb.frozen C6 0; have HO6 := Lib.hid ho6; have HG6 := Lib.hid hg6; have HL6 := Lib.hid hl6; have HC6 := Lib.hid C6; clear ho6 hg6 ha6 hl6 C6))
              exact FIN.out _ HBW.out _ _ _ HO6.out HG6.out HL6.out HC6.out
            case stop =>
              rintro D c pre W hD _ h hDW
              exact h.elim
            case done =>
              rintro D2 ys Y hD hS ⟨v, hI⟩ hDW
              obtain rfl : ys = rl cur := hS
              subst hT
              have Y1 := Lib.hid (show Cb b7 22 #[.slice va (rl cur).length vc] Y ∧ Row CkC Y (.slice va (rl cur).length vc) (rl cur) ∧ Y.heap[D]? = some (.deferred (some [])) ∧ Below w.heap.size w Y ∧ Cb b8 22 #[v] Y ∧ Row CkC Y v (rl cur) ∧ Y.heap[D2]? = some (.deferred (some [])) ∧ D < D2 ∧ w.heap.size ≤ D from by
                obtain ⟨p1, p2, p3, p4, p5, p6, p7⟩ := HKEEP.out _ O10.out
                have z1 := ZW.out
                have z2 := Z12.out
                have z3 := HZ.out
                have z4 := B0.out.size
                have hDl := lt_of_heap p4
                refine ⟨hI.kp.cb p1 ⟨by omega, by omega⟩, (Row.of_owns (C := CkC) (owns_kept p2 (fun g hg => hI.kp.keep g (own_lt7 p2 hg) (own_lt7 p2 hg) (by have := own_base p2 hg; omega)))).1, (hI.kp.keep D hDl hDl (by have := ZW.out; omega)).trans p4, HFIN.out _ (p6.trans (hI.kp.off.below (fun q hq => by
                  rcases hq with rfl | hq
                  · omega
                  · omega) p6.size)), hI.c, (Row.of_owns (C := CkC) hI.own).1, hDW, by omega, by omega⟩)
              obtain ⟨vb, vd, rfl, -, -⟩ := own_shape hI.own
              clear hI hDW hD HRG HI0
              obtain ⟨Q, hQ⟩ : ∃ Q, rl cur = Q := ⟨_, rfl⟩
              rw [hQ] at Y1 HNN
              try rw [hQ]
              have hqn := HNN.out
              clear hQ HKEEP HEND HFIN
              have c7 : Y.cell? ⟨b7, 0, none⟩ = some (.slice va Q.length vc) := Y1.out.1.cell 0
              have c8 : Y.cell? ⟨b8, 0, none⟩ = some (.slice vb Q.length vd) := Y1.out.2.2.2.2.1.cell 0
              have H1 := Lib.hid Y1.out.2.1
              have H2 := Lib.hid Y1.out.2.2.2.2.2.1
              have YE := Lib.hid (show Below w.heap.size w Y ∧ Y.heap[D]? = some (.deferred (some [])) ∧ Y.heap[D2]? = some (.deferred (some [])) ∧ D < D2 ∧ w.heap.size ≤ D from ⟨Y1.out.2.2.2.1, Y1.out.2.2.1, Y1.out.2.2.2.2.2.2.1, Y1.out.2.2.2.2.2.2.2.1, Y1.out.2.2.2.2.2.2.2.2⟩)
              clear Y1
              gi_wp2
              go_wp2
              go_loopw [131] (fun i wr => ∃ k q : Nat, k ≤ Q.length ∧ i = .int .i64 k ∧ wr = Y.drewN q) (fun i _ => Q.length - (intOf i).toNat)
              case atStart => exact ⟨0, 0, Nat.zero_le _, rfl, rfl⟩
              case round =>
                obtain ⟨k, q, hk, rfl, rfl⟩ := hrel
                by_cases hlt : k < Q.length
                · obtain ⟨g1, o1, rfl, -, -, -, -, -, -⟩ := Row.opened H1.out (by omega)
                  obtain ⟨g2, o2, rfl, -, -, -, -, -, -⟩ := Row.opened H2.out (by omega)
                  obtain ⟨x0, x1⟩ := ck_at H1.out hlt
                  obtain ⟨y0, y1⟩ := ck_at H2.out hlt
                  have hq := fun w => span_neq Q[k] Q[k] w
                  rw [(ckB_iff _ _).2 rfl] at hq
                  unfold cvs crow at hq
                  generalize Q[k].n = xn at *
                  generalize Q[k].d = xd at *
                  go_wp2
                  go_quiet (fail)
                  go_wp2
                  go_roundw
                  case rel => exact ⟨k + 1, q + nq, by omega, by go_num, by simp⟩
                  case measure => simp [intOf]; omega
                · obtain rfl : k = Q.length := by omega
                  go_wp2_with (go_at_call 8; refine (known11_any _).mono ?_; rintro e wk ⟨rfl, bb⟩; have BK := Lib.hid bb; clear bb)
                  obtain ⟨e1, e2, e3, e4, e5⟩ := YE.out
                  have bq : Below Y.heap.size Y (Y.drewN q) := blw_drewN (Below.refl _ _) q
                  have hbk := below_add bq BK.out bq.size
                  have f1 := below_add e1 hbk e1.size
                  have f2 := (hbk.block D (lt_of_heap e2)).trans e2
                  have f3 := (hbk.block D2 (lt_of_heap e3)).trans e3
                  have hG5 := grownBy_putObj' wk D2 (.deferred none)
                  have q5 := (hG5.block D (lt_of_heap f2) (fun e => by injection e; omega)).trans f2
                  have b5 := f1.trans (belowK_b (w := w) (Nat.le_refl _) wk D2 _ (.deferred none) (by omega) f3 rfl rfl)
                  have b6 := b5.trans (belowK_b (w := w) (Nat.le_refl _) (wk.putObj D2 (.deferred none)) D _ (.deferred none) e5 q5 rfl rfl)
                  refine ⟨by simp, .inl ⟨_, _, rfl, run_takeDeferred f3, by simp, .inl ⟨_, _, rfl, run_takeDeferred q5, ?_⟩⟩⟩
                  refine ⟨.bool true, ?_, rfl, b6⟩
                  simp [results, Try.f5, go_sem]
          · have hb1 : (E1 == 0) = false := beq_eq_false_iff_ne.2 hz1
            clear HBF hz1
            go_wp2_with (first
              | (go_at_call 12; refine HSA.out.mono ?_; rintro e w6 ⟨rfl, -, oo⟩; have O6 := Lib.hid (O5.out.seq (oo.mono HOX.out)); clear oo)
              | (go_at_call 8; refine (known11_any _).mono ?_; rintro e wk ⟨rfl, bb⟩; obtain ⟨e1, e2, e3⟩ := HEND.out _ _ O6.out bb; clear bb))
            have b5 := e1.trans (belowK_b (w := w) (Nat.le_refl _) wk D _ (.deferred none) e3 e2 rfl rfl)
            refine ⟨by simp, .inl ⟨_, _, rfl, run_takeDeferred e2, ?_⟩⟩
            refine ⟨.bool true, ?_, rfl, b5⟩
            simp [results, Try.f5, go_sem]

theorem back_walk (v0 : Value) (ls : List OpL) (o : OpV) (xs : List Rw) (w : World) (h0 : Orow w v0 ls) (hx : Row RwC w o.s xs) :
    Calls Try.prog 5 #[v0, opA o] w fun e w' => e = .returned (.bool true) ∧ Below w.heap.size w w' := by
  obtain ⟨a, cap, e⟩ := hx.shape
  have hln := hx.len
  injection e with e1 e2 e3
  by_cases hl : ls.length ≤ 40 ∧ o.l ≤ 100
  · exact back_main v0 ls o xs w h0 hx hl.1 hl.2
  · exact back_long v0 ls o w h0 (by rw [e2]; omega) hl
end Go.Proofs.Ytoppgdhidnpibaa
