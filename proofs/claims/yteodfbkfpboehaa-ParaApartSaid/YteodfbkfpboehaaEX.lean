
import Derived.Test.YteodfbkfpboehaaEW
/- EX: ParaApart -/
namespace Go.Proofs.Yteodfbkfpboehaa
open Go.RowKit Go.Shelf
set_option linter.unusedVariables false
set_option maxRecDepth 100000

def fold5 (xs : List OpL) (n : Nat) : List (List Att) := (xs.take n).foldl st5 []
theorem fold5_next {xs : List OpL} {n : Nat} (h : n < xs.length) : fold5 xs (n + 1) = st5 (fold5 xs n) xs[n] := fold_take st5 [] h
set_option maxHeartbeats 8000000 in
theorem apart_walk (v : Value) (ls : List OpL) (oa ob : OpV) (p1 p2 : OpL) (w : World) (h : Orow w v ls) (hp1 : OpR w oa p1) (hp2 : OpR w ob p2) (hz : ls.length * 72 ≤ 140737488351232) :
    Calls Try.prog 5 #[v, opA oa, opA ob] w fun e w' => e = .returned (.bool true) ∧ Below w.heap.size w w' := by
  obtain ⟨ss, pa, pb, hrow, hsl, hpa, hpb, hj⟩ := orow_cons2 h hp1 hp2
  clear hp1 hp2
  obtain ⟨a, cap, rfl⟩ := hrow.shape
  obtain ⟨q1, q2⟩ := hpa.ll
  have q3 := hpa.k
  have q4 := hpa.i
  have q5 := hpa.m
  obtain ⟨q6, q7⟩ := hpb.ll
  have q8 := hpb.k
  have q9 := hpb.i
  have q10 := hpb.m
  have hNA := hpa.L
  have hXA := hpa.x
  have hNB := hpb.L
  have hXB := hpb.x
  obtain ⟨ok, oi, om, la, ll, lc, xa, xl, xc⟩ := oa
  change ll = pa.L.length at q1
  change xl = pa.x.length at q2
  change ok = pa.k at q3
  change oi = pa.i at q4
  change om = pa.m at q5
  subst q1 q2 q3 q4 q5
  obtain ⟨ok, oi, om, lb, ll, ld, xb, xl, xd⟩ := ob
  change ll = pb.L.length at q6
  change xl = pb.x.length at q7
  change ok = pb.k at q8
  change oi = pb.i at q9
  change om = pb.m at q10
  subst q6 q7 q8 q9 q10
  change Nrow w (.slice la pa.L.length lc) pa.L at hNA
  change Crow w (.slice xa pa.x.length xc) pa.x at hXA
  change Nrow w (.slice lb pb.L.length ld) pb.L at hNB
  change Crow w (.slice xb pb.x.length xd) pb.x at hXB
  rw [hsl] at h hrow ⊢
  have hll := h.len
  have HLL0 := Lib.hid hll
  have HSL := Lib.hid hsl
  have HZ := Lib.hid hz
  have HROW := Lib.hid hrow
  have HJN := Lib.hid hj
  have HW := Lib.hid (show Cb w.heap.size 25 #[.int .i64 pa.k, .int .i64 pa.i, .int .i64 pa.m, .slice la pa.L.length lc, .slice xa pa.x.length xc] ((w.alloc (.cells #[.int .i64 pa.k, .int .i64 pa.i, .int .i64 pa.m, .slice la pa.L.length lc, .slice xa pa.x.length xc] 25)).alloc (.cells #[.int .i64 pb.k, .int .i64 pb.i, .int .i64 pb.m, .slice lb pb.L.length ld, .slice xb pb.x.length xd] 25)) ∧ Cb (w.heap.size + 1) 25 #[.int .i64 pb.k, .int .i64 pb.i, .int .i64 pb.m, .slice lb pb.L.length ld, .slice xb pb.x.length xd] ((w.alloc (.cells #[.int .i64 pa.k, .int .i64 pa.i, .int .i64 pa.m, .slice la pa.L.length lc, .slice xa pa.x.length xc] 25)).alloc (.cells #[.int .i64 pb.k, .int .i64 pb.i, .int .i64 pb.m, .slice lb pb.L.length ld, .slice xb pb.x.length xd] 25)) ∧ Below w.heap.size w ((w.alloc (.cells #[.int .i64 pa.k, .int .i64 pa.i, .int .i64 pa.m, .slice la pa.L.length lc, .slice xa pa.x.length xc] 25)).alloc (.cells #[.int .i64 pb.k, .int .i64 pb.i, .int .i64 pb.m, .slice lb pb.L.length ld, .slice xb pb.x.length xd] 25)) from
    ⟨(cb_new w _ _).alloc _, by have := cb_new (w.alloc (.cells #[.int .i64 pa.k, .int .i64 pa.i, .int .i64 pa.m, .slice la pa.L.length lc, .slice xa pa.x.length xc] 25)) 25 #[.int .i64 pb.k, .int .i64 pb.i, .int .i64 pb.m, .slice lb pb.L.length ld, .slice xb pb.x.length xd]; rwa [World.size_alloc] at this, (below_alloc1 w _).alloc (below_alloc1 w _).size _⟩)
  have HX1 := Lib.hid (And.intro h (And.intro hNA (And.intro hXA (And.intro hNB hXB))))
  obtain ⟨i0, hi, hz0, hz1, hz2⟩ := info_op
  clear h hpa hpb hNA hXA hNB hXB hj hrow hsl hz hll
  change Calls _ _ #[_, .agg #[.int .i64 pa.k, .int .i64 pa.i, .int .i64 pa.m, .slice la pa.L.length lc, .slice xa pa.x.length xc], .agg #[.int .i64 pb.k, .int .i64 pb.i, .int .i64 pb.m, .slice lb pb.L.length ld, .slice xb pb.x.length xd]] _ _
  go_enter Try.func5, Try.ntmps5
  go_upto_region 1 with fail
  refine with_worldT (fun W => Cb w.heap.size 25 #[.int .i64 pa.k, .int .i64 pa.i, .int .i64 pa.m, .slice la pa.L.length lc, .slice xa pa.x.length xc] W ∧ Cb (w.heap.size + 1) 25 #[.int .i64 pb.k, .int .i64 pb.i, .int .i64 pb.m, .slice lb pb.L.length ld, .slice xb pb.x.length xd] W ∧ Below w.heap.size w W) HW.out fun w1 hw1 => ?_
  obtain ⟨bo, hbo⟩ : ∃ b, w.heap.size = b := ⟨_, rfl⟩
  obtain ⟨bp, hbp⟩ : ∃ b, bo + 1 = b := ⟨_, rfl⟩
  have C1 := Lib.hid hw1.1
  have C2 := Lib.hid hw1.2.1
  have HB1 := Lib.hid hw1.2.2
  rw [hbo] at C1 C2 ⊢
  rw [hbp] at C2 ⊢
  have HV := Lib.hid (HX1.out.1.below HB1.out)
  have HNA := Lib.hid (HX1.out.2.1.below HB1.out (Nat.le_refl _))
  have HXA := Lib.hid (HX1.out.2.2.1.below HB1.out (Nat.le_refl _))
  have HNB := Lib.hid (HX1.out.2.2.2.1.below HB1.out (Nat.le_refl _))
  have HXB := Lib.hid (HX1.out.2.2.2.2.below HB1.out (Nat.le_refl _))
  have HBO := Lib.hid hbo
  clear hw1 HW HX1 hbo hbp
  have h63 : 2 + ss.length ≤ maxLen := by have := HSL.out; have := HZ.out; unfold maxLen; omega
  have hby : (2 + ss.length) * 72 ≤ 140737488355328 := by have := HSL.out; have := HZ.out; omega
  by_cases hs : smallL (pa :: pb :: ls)
  · have HS := Lib.hid hs
    have HSM := Lib.hid (fun W v (h : Orow W v (pa :: pb :: ls)) => small_any v _ W h)
    rw [decide_eq_true hs] at HSM
    have HSA := Lib.hid (hs.2 pa List.mem_cons_self)
    have HSB := Lib.hid (hs.2 pb (List.mem_cons_of_mem _ List.mem_cons_self))
    clear hs
    go_wp2_with (first
      | (go_at_call 17; (with_reducible refine (pa_new w1).mono ?_); rintro e w2 ⟨rb, rfl, q1, bb⟩; have N2 := Lib.hid q1; have NB2 := Lib.hid bb; clear q1 bb)
      | (go_at_call 17; (with_reducible refine (pa_new w2).mono ?_); rintro e w3 ⟨sb, rfl, q1, bb⟩; have L2' := Lib.hid (L2.new N2.out NB2.out q1 bb); have HB3 := Lib.hid (below_add HB1.out L2'.out.b HB1.out.size); have HR3 := Lib.hid (HROW.out.below (HB3.out.alloc HB3.out.size (.cells #[.int .i64 pa.k, .int .i64 pa.i, .int .i64 pa.m, .slice la pa.L.length lc, .slice xa pa.x.length xc, .int .i64 pb.k, .int .i64 pb.i, .int .i64 pb.m, .slice lb pb.L.length ld, .slice xb pb.x.length xd] 25)) (Nat.le_refl _)); have HO3 := Lib.hid (own_lit w3 25 [⟨pa.k, pa.i, pa.m, la, pa.L.length, lc, xa, pa.x.length, xc⟩, ⟨pb.k, pb.i, pb.m, lb, pb.L.length, ld, xb, pb.x.length, xd⟩] [.int .i64 pa.k, .int .i64 pa.i, .int .i64 pa.m, .slice la pa.L.length lc, .slice xa pa.x.length xc, .int .i64 pb.k, .int .i64 pb.i, .int .i64 pb.m, .slice lb pb.L.length ld, .slice xb pb.x.length xd] rfl (by show 2 ≤ maxLen; unfold maxLen; omega)); have ha := C1.out.below L2'.out.b; have hb := C2.out.below L2'.out.b; have a0 := ha.cell 0; have a1 := ha.cell 1; have a2 := ha.cell 2; have a3 := ha.cell 3; have a4 := ha.cell 4; have b0 := hb.cell 0; have b1 := hb.cell 1; have b2 := hb.cell 2; have b3 := hb.cell 3; have b4 := hb.cell 4; clear ha hb; clear q1 bb N2 NB2)
      | (at_builtin; refine wpList_noguard (by rfl) ?_; refine wpList_append_row (C := opC) rfl (.tmp 27) (.tmp 28) 27 rfl w3.heap.size 25 i0 _ 72 Try.underlying27 hi hz0 hz1 hz2 rfl (.slice (some ⟨w3.heap.size, 0, none⟩) 2 2) 2 [.int .i64 pa.k, .int .i64 pa.i, .int .i64 pa.m, .slice la pa.L.length lc, .slice xa pa.x.length xc, .int .i64 pb.k, .int .i64 pb.i, .int .i64 pb.m, .slice lb pb.L.length ld, .slice xb pb.x.length xd] rfl HO3.out _ ss rfl HR3.out h63 hby (by rw [World.size_alloc]; omega) ?_; intro v4 w4 hown4 hgrow4; have b4' := below_lit hgrow4 rfl; have L4 := Lib.hid (L2'.out.below b4'); have HO4 := Lib.hid (HJN.out w4 v4 (below_add HB3.out b4' HB3.out.size) (row_cons (os := [⟨pa.k, pa.i, pa.m, la, pa.L.length, lc, xa, pa.x.length, xc⟩, ⟨pb.k, pb.i, pb.m, lb, pb.L.length, ld, xb, pb.x.length, xd⟩]) rfl hown4)); clear b4' hown4 hgrow4 L2' HB3 HR3 HO3 a0 a1 a2 a3 a4 b0 b1 b2 b3 b4)
      | (go_at_call 7; (with_reducible refine (HSM.out w4 v4 HO4.out).mono ?_); rintro e w5 ⟨rfl, bb⟩; have L5 := Lib.hid (L4.out.below bb); clear bb L4 HO4))
    clear h63 hby hi hz0 hz1 hz2
    have hll := HLL0.out
    go_loopw [44] (fun s44 wr => ∃ n : Nat, n ≤ ls.length ∧ s44 = .int .i64 n ∧ Hid (L2 (fun q => w1.heap.size ≤ q) w1 rb sb n n (fold5 ls n) (fold5 ls n) wr)) (fun s44 _ => ls.length - (intOf s44).toNat)
    case atStart => exact ⟨0, Nat.zero_le _, rfl, L5⟩
    case round =>
      obtain ⟨n, hn, rfl, HR⟩ := hrel
      clear L5
      obtain ⟨wo, hwo⟩ : ∃ x : World, x = wr := ⟨_, rfl⟩
      subst hwo
      have h60 : ls.length + 1 + 1 ≤ 60 := HS.out.1
      by_cases hlt : n < ls.length
      · obtain ⟨b, off, ha, -, -, -, hbl, hat⟩ := HV.out.opn (by omega)
        subst ha
        obtain ⟨la', lc', xa', xc', c0, c1, c2, c3, c4, hN, hC⟩ := hat n hlt
        have hbw := HR.out.b
        have hso := HS.out.2 ls[n] (List.mem_cons_of_mem _ (List.mem_cons_of_mem _ (List.getElem_mem hlt)))
        have hst := fold5_next hlt
        have HK := Lib.hid (show n ≤ 100 by omega)
        obtain ⟨o, ho⟩ : ∃ o, ls[n] = o := ⟨_, rfl⟩
        rw [ho] at c0 c1 c2 c3 c4 hN hC hso hst
        have HST := Lib.hid hst
        have HSO2 := Lib.hid hso
        have HNR2 := Lib.hid hN
        have c0 : wo.cell? ⟨b, off + n * 5, none⟩ = some (.int .i64 o.k) := (hbw.cell hbl).trans c0
        have c1 : wo.cell? ⟨b, off + n * 5 + 1, none⟩ = some (.int .i64 o.i) := (hbw.cell hbl).trans c1
        have c2 : wo.cell? ⟨b, off + n * 5 + 2, none⟩ = some (.int .i64 o.m) := (hbw.cell hbl).trans c2
        have c3 : wo.cell? ⟨b, off + n * 5 + 3, none⟩ = some (.slice la' o.L.length lc') := (hbw.cell hbl).trans c3
        have c4 : wo.cell? ⟨b, off + n * 5 + 4, none⟩ = some (.slice xa' o.x.length xc') := (hbw.cell hbl).trans c4
        have HL := Lib.hid (HR.out.beside (.cells #[.int .i64 o.k, .int .i64 o.i, .int .i64 o.m, .slice la' o.L.length lc', .slice xa' o.x.length xc'] 25))
        have HCX := Lib.hid (fun W' (ho : Off (fun q => w1.heap.size ≤ q ∧ q ≠ wo.heap.size) (wo.alloc (.cells #[.int .i64 o.k, .int .i64 o.i, .int .i64 o.m, .slice la' o.L.length lc', .slice xa' o.x.length xc'] 25)) W') => (cb_new wo 25 #[.int .i64 o.k, .int .i64 o.i, .int .i64 o.m, .slice la' o.L.length lc', .slice xa' o.x.length xc']).off ho (fun hq => hq.2 rfl))
        clear hat ho hN hC hbw hso hst h60
        by_cases k2 : o.k = 2
        · rw [k2] at HL HCX
          go_wp2_with (first
            | (go_at_call 12; (with_reducible refine (HL.out.del HK.out o.i o.m).mono ?_); rintro e w6 ⟨rfl, q, oo⟩; have L6 := Lib.hid q.swap; have hc := HCX.out _ oo; have e1 := hc.cell 1; have e2 := hc.cell 2; clear q oo hc HL)
            | (go_at_call 12; (with_reducible refine (L6.out.del HK.out o.i o.m).mono ?_); rintro e w7 ⟨rfl, q, oo⟩; have L7 := Lib.hid q.swap.all; clear q oo L6 e1 e2))
          go_roundw
          case rel => exact ⟨n + 1, hlt, by go_num, by rw [HST.out, st5, if_pos k2]; exact L7⟩
          case measure => simp only [intOf]; omega
        · go_wp2_with (first
            | (go_at_call 11; (with_reducible refine (HL.out.ins HK.out HSO2.out HNR2.out).mono ?_); rintro e w6 ⟨rfl, q, oo⟩; have L6 := Lib.hid q.swap; have hc := HCX.out _ oo; have e1 := hc.cell 1; have e3 := hc.cell 3; clear q oo hc HL)
            | (go_at_call 11; (with_reducible refine (L6.out.ins HK.out HSO2.out HNR2.out).mono ?_); rintro e w7 ⟨rfl, q, oo⟩; have L7 := Lib.hid q.swap.all; clear q oo L6 e1 e3))
          go_roundw
          case rel => exact ⟨n + 1, hlt, by go_num, by rw [HST.out, st5, if_neg k2]; exact L7⟩
          case measure => simp only [intOf]; omega
      · obtain rfl : n = ls.length := by omega
        obtain ⟨l, hl⟩ : ∃ l, fold5 ls ls.length = l := ⟨_, rfl⟩
        rw [hl] at HR
        have L6 := Lib.hid (HR.out.le (show ls.length ≤ 60 by omega) (show ls.length ≤ 60 by omega))
        clear HR hl h60 hn hlt hll
        have ha := C1.out.below L6.out.b; have hb := C2.out.below L6.out.b; have a0 := ha.cell 0; have a1 := ha.cell 1; have a2 := ha.cell 2; have a3 := ha.cell 3; have a4 := ha.cell 4; have b0 := hb.cell 0; have b1 := hb.cell 1; have b2 := hb.cell 2; have b3 := hb.cell 3; have b4 := hb.cell 4; clear ha hb
        by_cases g1 : pa.i < pb.m
        · have d1 : decide (pa.i < pb.m) = true := decide_eq_true g1
          clear g1
          go_wp2_with (go_at_call 8; refine (known13_any _).mono ?_; rintro e wk ⟨rfl, bb⟩; have ZK := Lib.hid (L6.out.below bb); clear bb)
          go_ret
          exact ⟨rfl, below_add HB1.out ZK.out.b HB1.out.size⟩
        · have d1 : decide (pa.i < pb.m) = false := decide_eq_false g1
          have HG := Lib.hid (show pb.m ≤ pa.i by omega)
          clear g1
          have H1 := Lib.hid (fun W (h : L2 (fun q => w1.heap.size ≤ q) w1 rb sb 60 60 l l W) => h.pat (by decide) HSB.out HXB.out)
          rcases mrE_two l.length pb.i pb.m with e1 | e1
          · rcases mrE_two l.length pa.i pa.i with e2 | e2
            · have hf := apart_facts (L := pa.L) (X := pb.x) HG.out e1 e2
              have hlen := patL_len l pb.i pb.m pb.x
              obtain ⟨l1, hl1⟩ : ∃ x, patL l pb.i pb.m pb.x = x := ⟨_, rfl⟩
              obtain ⟨m1, hm1⟩ : ∃ x, insL l pa.i pa.L = x := ⟨_, rfl⟩
              rw [hl1] at hlen hf
              rw [hm1] at hf
              obtain ⟨l2, hl2⟩ : ∃ x, insL l1 pa.i pa.L = x := ⟨_, rfl⟩
              rw [hl2] at hf
              have e5 : mrE l1.length pa.i pa.i = 0 := by rw [hlen]; exact e2
              have H2 := Lib.hid (fun W (h : L2 (fun q => w1.heap.size ≤ q) w1 rb sb 61 60 l1 l W) => h.ins (by decide) HSA.out HNA.out)
              have H3 := Lib.hid (fun W (h : L2 (fun q => w1.heap.size ≤ q) w1 sb rb 60 62 l l2 W) => h.ins (by decide) HSA.out HNA.out)
              have H4 := Lib.hid (fun W (h : L2 (fun q => w1.heap.size ≤ q) w1 sb rb 61 62 m1 l2 W) => h.pat (by decide) HSB.out HXB.out)
              rw [e1, hl1] at H1
              rw [e5, hl2] at H2
              rw [e2, hm1] at H3
              rw [hf.1, hf.2] at H4
              clear e1 e2 e5 hf hlen hl1 hm1 hl2 HG
              go_wp2_with (first
                | (go_at_call 13; (with_reducible refine (H1.out _ L6.out).mono ?_); rintro e w7 ⟨rfl, q, oo⟩; have L7 := Lib.hid q; clear q oo L6 H1 a0 a1 a2 a3 a4 b0 b1 b2 b3 b4; have ha := C1.out.below L7.out.b; have hb := C2.out.below L7.out.b; have a0 := ha.cell 0; have a1 := ha.cell 1; have a2 := ha.cell 2; have a3 := ha.cell 3; have a4 := ha.cell 4; have b0 := hb.cell 0; have b1 := hb.cell 1; have b2 := hb.cell 2; have b3 := hb.cell 3; have b4 := hb.cell 4; clear ha hb)
                | (go_at_call 11; (with_reducible refine (H2.out _ L7.out).mono ?_); rintro e w8 ⟨rfl, q, oo⟩; have L8 := Lib.hid q.swap; clear q oo L7 H2 a0 a1 a2 a3 a4 b0 b1 b2 b3 b4; have ha := C1.out.below L8.out.b; have hb := C2.out.below L8.out.b; have a0 := ha.cell 0; have a1 := ha.cell 1; have a2 := ha.cell 2; have a3 := ha.cell 3; have a4 := ha.cell 4; have b0 := hb.cell 0; have b1 := hb.cell 1; have b2 := hb.cell 2; have b3 := hb.cell 3; have b4 := hb.cell 4; clear ha hb)
                | (go_at_call 11; (with_reducible refine (H3.out _ L8.out).mono ?_); rintro e w9 ⟨rfl, q, oo⟩; have L9 := Lib.hid q; clear q oo L8 H3 a0 a1 a2 a3 a4 b0 b1 b2 b3 b4; have ha := C1.out.below L9.out.b; have hb := C2.out.below L9.out.b; have a0 := ha.cell 0; have a1 := ha.cell 1; have a2 := ha.cell 2; have a3 := ha.cell 3; have a4 := ha.cell 4; have b0 := hb.cell 0; have b1 := hb.cell 1; have b2 := hb.cell 2; have b3 := hb.cell 3; have b4 := hb.cell 4; clear ha hb)
                | (go_at_call 13; (with_reducible refine (H4.out _ L9.out).mono ?_); rintro e w10 ⟨rfl, q, oo⟩; have L10 := Lib.hid q.swap; clear q oo L9 H4 a0 a1 a2 a3 a4 b0 b1 b2 b3 b4)
                | (go_at_call 14; (with_reducible refine L10.out.len.mono ?_); rintro e w11 ⟨rfl, bb⟩; have L11 := Lib.hid (L10.out.below bb); clear bb L10)
                | (go_at_call 14; (with_reducible refine L11.out.swap.len.mono ?_); rintro e w12 ⟨rfl, bb⟩; have L12 := Lib.hid (L11.out.below bb); clear bb L11)
                | (go_at_call 14; (with_reducible refine L12.out.len.mono ?_); rintro e w13 ⟨rfl, bb⟩; have L13 := Lib.hid (L12.out.below bb); clear bb L12))
              have hll2 : l2.length ≤ 10000 := by have := L13.out.p.n; omega
              go_loopw [129] (fun s129 wr => ∃ n : Nat, n ≤ l2.length ∧ s129 = .int .i64 n ∧ Hid (Below w13.heap.size w13 wr)) (fun s129 _ => l2.length - (intOf s129).toNat)
              case atStart => exact ⟨0, Nat.zero_le _, rfl, Lib.hid (Below.refl _ _)⟩
              case round =>
                obtain ⟨n, hn, rfl, HB⟩ := hrel
                obtain ⟨wi, hwi⟩ : ∃ x : World, x = wr := ⟨_, rfl⟩
                subst hwi
                by_cases hlt : n < l2.length
                · have HA1 := Lib.hid ((L13.out.below HB.out).at (by decide) n hlt)
                  have HA2 := Lib.hid (fun W (hb : Below w13.heap.size w13 W) => (L13.out.below hb).swap.at (by decide) n hlt)
                  obtain ⟨s, hs⟩ : ∃ s, l2.getD n [] = s := ⟨_, rfl⟩
                  rw [hs] at HA1 HA2
                  clear hs
                  go_wp2_with (first
                    | (go_at_call 9; (with_reducible refine HA1.out.mono ?_); rintro e W14 ⟨ua, uc, rfl, q, bb⟩; have HU := Lib.hid q; have HB14 := Lib.hid (below_add HB.out bb HB.out.size); clear q bb HA1)
                    | (go_at_call 9; (with_reducible refine (HA2.out _ HB14.out).mono ?_); rintro e W15 ⟨va, vc, rfl, q, bb⟩; have HV2 := Lib.hid q; have HU2 := Lib.hid (HU.out.below bb (Nat.le_refl _)); have HB15 := Lib.hid (below_add HB14.out bb HB14.out.size); clear q bb HA2)
                    | (go_at_call 18; (with_reducible refine (law_same _ _ s s _ HU2.out HV2.out).mono ?_); rintro e W16 ⟨rfl, bb⟩; rw [decide_eq_true rfl]; have HB16 := Lib.hid (below_add HB15.out bb HB15.out.size); clear bb))
                  go_roundw
                  case rel => exact ⟨n + 1, hlt, by go_num, HB16⟩
                  case measure => simp only [intOf]; omega
                · obtain rfl : n = l2.length := by omega
                  have ZL := Lib.hid (L13.out.below HB.out)
                  go_wp2_with (go_at_call 8; refine (known13_any _).mono ?_; rintro e wk ⟨rfl, bb⟩; have ZK := Lib.hid (ZL.out.below bb); clear bb)
                  go_ret
                  exact ⟨rfl, below_add HB1.out ZK.out.b HB1.out.size⟩
            · have e5 : mrE (patL l pb.i pb.m pb.x).length pa.i pa.i = 5 := by rw [patL_len]; exact e2
              have H2 := Lib.hid (fun W (h : L2 (fun q => w1.heap.size ≤ q) w1 rb sb 61 60 (patL l pb.i pb.m pb.x) l W) => h.ins (by decide) HSA.out HNA.out)
              rw [e1] at H1
              rw [e5] at H2
              clear e1 e2 e5
              go_wp2_with (first
                | (go_at_call 13; (with_reducible refine (H1.out _ L6.out).mono ?_); rintro e w7 ⟨rfl, q, oo⟩; have L7 := Lib.hid q; clear q oo L6 H1 a0 a1 a2 a3 a4 b0 b1 b2 b3 b4; have ha := C1.out.below L7.out.b; have hb := C2.out.below L7.out.b; have a0 := ha.cell 0; have a1 := ha.cell 1; have a2 := ha.cell 2; have a3 := ha.cell 3; have a4 := ha.cell 4; have b0 := hb.cell 0; have b1 := hb.cell 1; have b2 := hb.cell 2; have b3 := hb.cell 3; have b4 := hb.cell 4; clear ha hb)
                | (go_at_call 11; (with_reducible refine (H2.out _ L7.out).mono ?_); rintro e w8 ⟨rfl, q, oo⟩; have L8 := Lib.hid q; clear q oo L7 H2)
                | (go_at_call 8; refine (known13_any _).mono ?_; rintro e wk ⟨rfl, bb⟩; have ZK := Lib.hid (L8.out.below bb); clear bb))
              go_ret
              exact ⟨rfl, below_add HB1.out ZK.out.b HB1.out.size⟩
          · rw [e1] at H1
            clear e1
            go_wp2_with (first
              | (go_at_call 13; (with_reducible refine (H1.out _ L6.out).mono ?_); rintro e w7 ⟨rfl, q, oo⟩; have L7 := Lib.hid q; clear q oo L6 H1)
              | (go_at_call 8; refine (known13_any _).mono ?_; rintro e wk ⟨rfl, bb⟩; have ZK := Lib.hid (L7.out.below bb); clear bb))
            go_ret
            exact ⟨rfl, below_add HB1.out ZK.out.b HB1.out.size⟩
  · have HSM := Lib.hid (fun W v (h : Orow W v (pa :: pb :: ls)) => small_any v _ W h)
    rw [decide_eq_false hs] at HSM
    clear hs
    go_wp2_with (first
      | (go_at_call 17; (with_reducible refine (pa_new w1).mono ?_); rintro e w2 ⟨rb, rfl, q1, bb⟩; have N2 := Lib.hid q1; have NB2 := Lib.hid bb; clear q1 bb)
      | (go_at_call 17; (with_reducible refine (pa_new w2).mono ?_); rintro e w3 ⟨sb, rfl, q1, bb⟩; have L2' := Lib.hid (L2.new N2.out NB2.out q1 bb); have HB3 := Lib.hid (below_add HB1.out L2'.out.b HB1.out.size); have HR3 := Lib.hid (HROW.out.below (HB3.out.alloc HB3.out.size (.cells #[.int .i64 pa.k, .int .i64 pa.i, .int .i64 pa.m, .slice la pa.L.length lc, .slice xa pa.x.length xc, .int .i64 pb.k, .int .i64 pb.i, .int .i64 pb.m, .slice lb pb.L.length ld, .slice xb pb.x.length xd] 25)) (Nat.le_refl _)); have HO3 := Lib.hid (own_lit w3 25 [⟨pa.k, pa.i, pa.m, la, pa.L.length, lc, xa, pa.x.length, xc⟩, ⟨pb.k, pb.i, pb.m, lb, pb.L.length, ld, xb, pb.x.length, xd⟩] [.int .i64 pa.k, .int .i64 pa.i, .int .i64 pa.m, .slice la pa.L.length lc, .slice xa pa.x.length xc, .int .i64 pb.k, .int .i64 pb.i, .int .i64 pb.m, .slice lb pb.L.length ld, .slice xb pb.x.length xd] rfl (by show 2 ≤ maxLen; unfold maxLen; omega)); have ha := C1.out.below L2'.out.b; have hb := C2.out.below L2'.out.b; have a0 := ha.cell 0; have a1 := ha.cell 1; have a2 := ha.cell 2; have a3 := ha.cell 3; have a4 := ha.cell 4; have b0 := hb.cell 0; have b1 := hb.cell 1; have b2 := hb.cell 2; have b3 := hb.cell 3; have b4 := hb.cell 4; clear ha hb; clear q1 bb N2 NB2)
      | (at_builtin; refine wpList_noguard (by rfl) ?_; refine wpList_append_row (C := opC) rfl (.tmp 27) (.tmp 28) 27 rfl w3.heap.size 25 i0 _ 72 Try.underlying27 hi hz0 hz1 hz2 rfl (.slice (some ⟨w3.heap.size, 0, none⟩) 2 2) 2 [.int .i64 pa.k, .int .i64 pa.i, .int .i64 pa.m, .slice la pa.L.length lc, .slice xa pa.x.length xc, .int .i64 pb.k, .int .i64 pb.i, .int .i64 pb.m, .slice lb pb.L.length ld, .slice xb pb.x.length xd] rfl HO3.out _ ss rfl HR3.out h63 hby (by rw [World.size_alloc]; omega) ?_; intro v4 w4 hown4 hgrow4; have b4' := below_lit hgrow4 rfl; have L4 := Lib.hid (L2'.out.below b4'); have HO4 := Lib.hid (HJN.out w4 v4 (below_add HB3.out b4' HB3.out.size) (row_cons (os := [⟨pa.k, pa.i, pa.m, la, pa.L.length, lc, xa, pa.x.length, xc⟩, ⟨pb.k, pb.i, pb.m, lb, pb.L.length, ld, xb, pb.x.length, xd⟩]) rfl hown4)); clear b4' hown4 hgrow4 L2' HB3 HR3 HO3 a0 a1 a2 a3 a4 b0 b1 b2 b3 b4)
      | (go_at_call 7; (with_reducible refine (HSM.out w4 v4 HO4.out).mono ?_); rintro e w5 ⟨rfl, bb⟩; have L5 := Lib.hid (L4.out.below bb); clear bb L4 HO4)
      | (go_at_call 8; refine (known13_any _).mono ?_; rintro e w6 ⟨rfl, bb⟩; have L6 := Lib.hid (L5.out.below bb); clear bb))
    go_ret
    exact ⟨rfl, below_add HB1.out L6.out.b HB1.out.size⟩
end Go.Proofs.Yteodfbkfpboehaa
