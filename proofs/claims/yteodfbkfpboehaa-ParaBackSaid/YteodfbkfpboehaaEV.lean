
import Derived.Test.YteodfbkfpboehaaEU
/- EV: ParaBack -/
namespace Go.Proofs.Yteodfbkfpboehaa
open Go.RowKit Go.Shelf
set_option linter.unusedVariables false
set_option maxRecDepth 100000

def fold4 (xs : List OpL) (n : Nat) : List (List Att) := (xs.take n).foldl st4 []
theorem fold4_next {xs : List OpL} {n : Nat} (h : n < xs.length) : fold4 xs (n + 1) = st4 (fold4 xs n) xs[n] := fold_take st4 [] h
set_option maxHeartbeats 8000000 in
theorem back_walk (v : Value) (ls : List OpL) (o0 : OpV) (p0 : OpL) (w : World) (h : Orow w v ls) (hp : OpR w o0 p0) (hz : ls.length * 72 ≤ 140737488351232) :
    Calls Try.prog 4 #[v, opA o0] w fun e w' => e = .returned (.bool true) ∧ Below w.heap.size w w' := by
  obtain ⟨ss, p, hrow, hsl, hpr, hj, -⟩ := orow_cons h hp
  clear hp
  obtain ⟨a, cap, rfl⟩ := hrow.shape
  obtain ⟨q1, q2⟩ := hpr.ll
  have q3 := hpr.k
  have q4 := hpr.i
  have q5 := hpr.m
  have hNR := hpr.L
  have hXR := hpr.x
  obtain ⟨ok, oi, om, la, ll, lc, xa, xl, xc⟩ := o0
  change ll = p.L.length at q1
  change xl = p.x.length at q2
  change ok = p.k at q3
  change oi = p.i at q4
  change om = p.m at q5
  subst q1 q2 q3 q4 q5
  change Nrow w (.slice la p.L.length lc) p.L at hNR
  change Crow w (.slice xa p.x.length xc) p.x at hXR
  rw [hsl] at h hrow ⊢
  have hll := h.len
  have HLL0 := Lib.hid hll
  have HSL := Lib.hid hsl
  have HZ := Lib.hid hz
  have HROW := Lib.hid hrow
  have HJN := Lib.hid hj
  have HLP := Lib.hid hNR.len
  have HXL := Lib.hid hXR.len
  have HW := Lib.hid (show Cb w.heap.size 25 #[.int .i64 p.k, .int .i64 p.i, .int .i64 p.m, .slice la p.L.length lc, .slice xa p.x.length xc] (w.alloc (.cells #[.int .i64 p.k, .int .i64 p.i, .int .i64 p.m, .slice la p.L.length lc, .slice xa p.x.length xc] 25)) ∧ Below w.heap.size w (w.alloc (.cells #[.int .i64 p.k, .int .i64 p.i, .int .i64 p.m, .slice la p.L.length lc, .slice xa p.x.length xc] 25)) from ⟨cb_new w _ _, below_alloc1 w _⟩)
  have HX1 := Lib.hid (And.intro h (And.intro hNR hXR))
  obtain ⟨i0, hi, hz0, hz1, hz2⟩ := info_op
  clear h hpr hNR hXR hj hrow hsl hz hll
  change Calls _ _ #[_, .agg #[.int .i64 p.k, .int .i64 p.i, .int .i64 p.m, .slice la p.L.length lc, .slice xa p.x.length xc]] _ _
  go_enter Try.func4, Try.ntmps4
  go_upto_region 1 with fail
  refine with_worldT (fun W => Cb w.heap.size 25 #[.int .i64 p.k, .int .i64 p.i, .int .i64 p.m, .slice la p.L.length lc, .slice xa p.x.length xc] W ∧ Below w.heap.size w W) HW.out fun w1 hw1 => ?_
  obtain ⟨bo, hbo⟩ : ∃ b, w.heap.size = b := ⟨_, rfl⟩
  have HBO := Lib.hid hbo
  have C1 := Lib.hid hw1.1
  have HB1 := Lib.hid hw1.2
  rw [hbo] at C1 ⊢
  have HV := Lib.hid (HX1.out.1.below HB1.out)
  have HNR := Lib.hid (HX1.out.2.1.below HB1.out (Nat.le_refl _))
  have HXR := Lib.hid (HX1.out.2.2.below HB1.out (Nat.le_refl _))
  clear hw1 HW HX1 hbo
  have HN := Lib.hid (rx_new (X := fun q => w1.heap.size ≤ q) w1 (fun k hk => hk))
  have h63 : 1 + ss.length ≤ maxLen := by have := HSL.out; have := HZ.out; unfold maxLen; omega
  have hby : (1 + ss.length) * 72 ≤ 140737488355328 := by have := HSL.out; have := HZ.out; omega
  by_cases hs : smallL (p :: ls)
  · have HS := Lib.hid hs
    have HSM := Lib.hid (fun W v (h : Orow W v (p :: ls)) => small_any v _ W h)
    rw [decide_eq_true hs] at HSM
    have HSO := Lib.hid (hs.2 p List.mem_cons_self)
    clear hs
    go_wp2_with (first
      | (go_at_call 17; (with_reducible refine HN.out.mono ?_); rintro e w2 ⟨rb, rfl, q1, bb⟩; have L2 := Lib.hid (LI.mk q1 bb PB.nil); have hc := C1.out.below bb; have c0 := hc.cell 0; have c1 := hc.cell 1; have c2 := hc.cell 2; have c3 := hc.cell 3; have c4 := hc.cell 4; have HB2 := Lib.hid (below_add HB1.out bb HB1.out.size); have HR2 := Lib.hid (HROW.out.below (HB2.out.alloc HB2.out.size (.cells #[.int .i64 p.k, .int .i64 p.i, .int .i64 p.m, .slice la p.L.length lc, .slice xa p.x.length xc] 25)) (Nat.le_refl _)); have HO2 := Lib.hid (own_lit w2 25 [⟨p.k, p.i, p.m, la, p.L.length, lc, xa, p.x.length, xc⟩] [.int .i64 p.k, .int .i64 p.i, .int .i64 p.m, .slice la p.L.length lc, .slice xa p.x.length xc] rfl (by show 1 ≤ maxLen; unfold maxLen; omega)); clear hc q1 bb)
      | (at_builtin; refine wpList_noguard (by rfl) ?_; refine wpList_append_row (C := opC) rfl (.tmp 25) (.tmp 26) 27 rfl w2.heap.size 25 i0 _ 72 Try.underlying27 hi hz0 hz1 hz2 rfl (.slice (some ⟨w2.heap.size, 0, none⟩) 1 1) 1 [.int .i64 p.k, .int .i64 p.i, .int .i64 p.m, .slice la p.L.length lc, .slice xa p.x.length xc] rfl HO2.out _ ss rfl HR2.out h63 hby (by rw [World.size_alloc]; omega) ?_; intro v3 w3 hown3 hgrow3; have b3 := below_lit hgrow3 rfl; have L3 := Lib.hid (L2.out.below b3); have HO3 := Lib.hid (HJN.out w3 v3 (below_add HB2.out b3 HB2.out.size) (row_cons (os := [⟨p.k, p.i, p.m, la, p.L.length, lc, xa, p.x.length, xc⟩]) rfl hown3)); clear b3 hown3 hgrow3 L2 HB2 HR2 HO2 c0 c1 c2 c3 c4)
      | (go_at_call 7; (with_reducible refine (HSM.out w3 v3 HO3.out).mono ?_); rintro e w4 ⟨rfl, bb⟩; have L4 := Lib.hid (L3.out.below bb); clear bb L3 HO3))
    clear h63 hby hi hz0 hz1 hz2
    have hll := HLL0.out
    go_loopw [38] (fun s38 wr => ∃ n : Nat, n ≤ ls.length ∧ s38 = .int .i64 n ∧ Hid (LI w1 rb n (fold4 ls n) wr)) (fun s38 _ => ls.length - (intOf s38).toNat)
    case atStart => exact ⟨0, Nat.zero_le _, rfl, L4⟩
    case round =>
      obtain ⟨n, hn, rfl, HR⟩ := hrel
      clear L4
      obtain ⟨wo, hwo⟩ : ∃ x : World, x = wr := ⟨_, rfl⟩
      subst hwo
      have h60 : ls.length + 1 ≤ 60 := HS.out.1
      by_cases hlt : n < ls.length
      · obtain ⟨b, off, ha, -, -, -, hbl, hat⟩ := HV.out.opn (by omega)
        subst ha
        obtain ⟨la', lc', xa', xc', c0, c1, c2, c3, c4, hN, hC⟩ := hat n hlt
        have hbw := HR.out.b
        have hso := HS.out.2 ls[n] (List.mem_cons_of_mem _ (List.getElem_mem hlt))
        have hst := fold4_next hlt
        have HK := Lib.hid (show n ≤ 100 by omega)
        obtain ⟨o, ho⟩ : ∃ o, ls[n] = o := ⟨_, rfl⟩
        rw [ho] at c0 c1 c2 c3 c4 hN hC hso hst
        have HST := Lib.hid hst
        have HSO2 := Lib.hid hso
        have HNR2 := Lib.hid hN
        have HCR2 := Lib.hid hC
        have c0 : wo.cell? ⟨b, off + n * 5, none⟩ = some (.int .i64 o.k) := (hbw.cell hbl).trans c0
        have c1 : wo.cell? ⟨b, off + n * 5 + 1, none⟩ = some (.int .i64 o.i) := (hbw.cell hbl).trans c1
        have c2 : wo.cell? ⟨b, off + n * 5 + 2, none⟩ = some (.int .i64 o.m) := (hbw.cell hbl).trans c2
        have c3 : wo.cell? ⟨b, off + n * 5 + 3, none⟩ = some (.slice la' o.L.length lc') := (hbw.cell hbl).trans c3
        have c4 : wo.cell? ⟨b, off + n * 5 + 4, none⟩ = some (.slice xa' o.x.length xc') := (hbw.cell hbl).trans c4
        have HL := Lib.hid (fun cs => HR.out.below (below_alloc1 wo (.cells cs 25)))
        clear hat ho hN hC hbw hso hst h60
        by_cases k1 : o.k = 1
        · go_wp2_with (go_at_call 11; (with_reducible refine ((HL.out _).ins HK.out HSO2.out HNR2.out).mono ?_); rintro e w5 ⟨rfl, q⟩; have L5 := Lib.hid q; clear q)
          go_roundw
          case rel => exact ⟨n + 1, hlt, by go_num, by rw [HST.out, st4, if_pos k1]; exact L5⟩
          case measure => simp only [intOf]; omega
        · by_cases k2 : o.k = 2
          · go_wp2_with (go_at_call 12; (with_reducible refine ((HL.out _).del HK.out o.i o.m).mono ?_); rintro e w5 ⟨rfl, q⟩; have L5 := Lib.hid q; clear q)
            go_roundw
            case rel => exact ⟨n + 1, hlt, by go_num, by rw [HST.out, st4, if_neg k1, if_pos k2]; exact L5⟩
            case measure => simp only [intOf]; omega
          · go_wp2_with (go_at_call 13; (with_reducible refine ((HL.out _).pat HK.out HSO2.out HCR2.out).mono ?_); rintro e w5 ⟨rfl, q⟩; have L5 := Lib.hid q; clear q)
            go_roundw
            case rel => exact ⟨n + 1, hlt, by go_num, by rw [HST.out, st4, if_neg k1, if_neg k2]; exact L5⟩
            case measure => simp only [intOf]; omega
      · obtain rfl : n = ls.length := by omega
        obtain ⟨l, hl⟩ : ∃ l, fold4 ls ls.length = l := ⟨_, rfl⟩
        rw [hl] at HR
        have L5 := Lib.hid (HR.out.le (show ls.length ≤ 60 by omega))
        have HPB := Lib.hid L5.out.p
        have HLL := Lib.hid (show l.length ≤ 10000 by have := L5.out.p.n; omega)
        clear HR hl h60 hn hlt hll
        rcases mrE_two l.length p.i p.i with e1 | e1
        · have hd := ins_del (L := p.L) e1
          have hin : insL l p.i p.L = insL l p.i p.L := rfl
          have hwp : IntKind.i64.wrap (p.i + ((p.L.length : Nat) : Int)) = p.i + ((p.L.length : Nat) : Int) := by
            have := mrE_iff.1 e1; have := HLL.out; have := HSO.out.1
            exact wrap_ok (by omega) (by omega)
          have HINS := Lib.hid (fun X W (h : LX X w1 rb 60 l W) => h.ins (by decide) HSO.out HNR.out)
          rw [e1] at HINS
          have HDEL := Lib.hid (fun X W (h : LX X w1 rb 61 (insL l p.i p.L) W) => h.del (by decide) p.i (p.i + ((p.L.length : Nat) : Int)))
          rw [hd.1, hd.2] at HDEL
          clear e1 hd hin
          go_wp2_with (first
            | (go_at_call 14; (with_reducible refine L5.out.len.mono ?_); rintro e w6 ⟨rfl, bb⟩; have L6 := Lib.hid (L5.out.below bb); clear bb L5)
            | (go_at_call 10; go_loud ((with_reducible refine (L6.out.was (by decide)).mono ?_); rintro e w7 ⟨a3, c3', X, rfl, q, hw⟩; have L7 := Lib.hid q; have HWAS := Lib.hid hw; have O7 := Lib.hid (Off.refl X w7); have hc := C1.out.below q.b; have c1 := hc.cell 1; have c3 := hc.cell 3; clear hc q hw L6))
            | (go_at_call 11; go_loud ((with_reducible refine (HINS.out _ _ L7.out).mono ?_); rintro e w8 ⟨rfl, q, oo⟩; have L8 := Lib.hid q; have O8 := Lib.hid (O7.out.seq oo); have hc := C1.out.below q.b; clear c1 c3; have c1 := hc.cell 1; have c3 := hc.cell 3; clear hc q oo L7 O7 HINS))
            | (go_at_call 12; (with_reducible refine (HDEL.out _ _ L8.out).mono ?_); rintro e W9 ⟨rfl, q, oo⟩; have L9 := Lib.hid q; have O9 := Lib.hid (O8.out.seq oo); clear q oo L8 O8 HDEL c1 c3))
          clear hwp
          have hll2 := HLL.out
          go_loopw [100] (fun s100 wr => ∃ n : Nat, n ≤ l.length ∧ s100 = .int .i64 n ∧ Hid (Below W9.heap.size W9 wr)) (fun s100 _ => l.length - (intOf s100).toNat)
          case atStart => exact ⟨0, Nat.zero_le _, rfl, Lib.hid (Below.refl _ _)⟩
          case round =>
            obtain ⟨n, hn, rfl, HB⟩ := hrel
            obtain ⟨wi, hwi⟩ : ∃ x : World, x = wr := ⟨_, rfl⟩
            subst hwi
            by_cases hlt : n < l.length
            · obtain ⟨b3, o3, ha3, -, -, -, hb3, hat3⟩ := (HWAS.out wi (O9.out.seq (Off.of_below HB.out))).opn (by omega)
              subst ha3
              obtain ⟨sa, sc, hc3, hs3⟩ := hat3 n hlt
              have HAT := Lib.hid ((L9.out.below HB.out).at (by decide) n hlt)
              obtain ⟨s, hs⟩ : ∃ s, l.getD n [] = s := ⟨_, rfl⟩
              rw [hs] at HAT hc3 hs3
              have HC3 := Lib.hid (And.intro hb3 hc3)
              have HS3 := Lib.hid hs3
              clear hat3 hs hb3 hc3 hs3
              go_wp2_with (first
                | (go_at_call 9; (with_reducible refine HAT.out.mono ?_); rintro e W10 ⟨ua, uc, rfl, q, bb⟩; have HU := Lib.hid q; have HB10 := Lib.hid (below_add HB.out bb HB.out.size); have hcw : W10.cell? ⟨b3, o3 + n, none⟩ = some (.slice sa s.length sc) := (bb.cell HC3.out.1).trans HC3.out.2; have HS4 := Lib.hid (HS3.out.below bb (Nat.le_refl _)); clear q bb HAT)
                | (go_at_call 18; (with_reducible refine (law_same _ _ s s _ HU.out HS4.out).mono ?_); rintro e W11 ⟨rfl, bb⟩; rw [decide_eq_true rfl]; have HB11 := Lib.hid (below_add HB10.out bb HB10.out.size); clear bb))
              go_roundw
              case rel => exact ⟨n + 1, hlt, by go_num, HB11⟩
              case measure => simp only [intOf]; omega
            · obtain rfl : n = l.length := by omega
              have L10 := Lib.hid (L9.out.below HB.out)
              have O10 := Lib.hid (O9.out.seq (Off.of_below HB.out))
              clear L9 O9 HB
              rcases mrE_two l.length p.i p.m with e2 | e2
              · have HGG := Lib.hid (fun n hn => pat_get (X := p.x) e2 (k := n) hn)
                have hlen2 := patL_len l p.i p.m p.x
                obtain ⟨l2, hl2⟩ : ∃ x, patL l p.i p.m p.x = x := ⟨_, rfl⟩
                have HPT := Lib.hid (fun W (h : LX X w1 rb 62 l W) => h.pat (by decide) HSO.out HXR.out)
                rw [hl2, e2] at HPT
                rw [hl2] at HGG hlen2
                have HL2 := Lib.hid hlen2
                clear hl2 hlen2 e2
                go_wp2_with (first
                  | (go_at_call 14; (with_reducible refine L10.out.len.mono ?_); rintro e W11 ⟨rfl, bb⟩; have L11 := Lib.hid (L10.out.below bb); have O11 := Lib.hid (O10.out.seq (Off.of_below bb)); have hc := C1.out.below L11.out.b; have c1 := hc.cell 1; have c2 := hc.cell 2; have c4 := hc.cell 4; clear hc bb L10 O10)
                  | (go_at_call 13; (with_reducible refine (HPT.out _ L11.out).mono ?_); rintro e W12 ⟨rfl, q, oo⟩; have L12 := Lib.hid q; have O12 := Lib.hid (O11.out.seq oo); clear q oo L11 O11 HPT c1 c2 c4))
                go_loopw [138] (fun s138 wr => ∃ n : Nat, n ≤ l.length ∧ s138 = .int .i64 n ∧ Hid (Below W12.heap.size W12 wr)) (fun s138 _ => l.length - (intOf s138).toNat)
                case atStart => exact ⟨0, Nat.zero_le _, rfl, Lib.hid (Below.refl _ _)⟩
                case round =>
                  obtain ⟨n, hn, rfl, HB⟩ := hrel
                  obtain ⟨wi, hwi⟩ : ∃ x : World, x = wr := ⟨_, rfl⟩
                  subst hwi
                  by_cases hlt : n < l.length
                  · obtain ⟨b3, o3, ha3, -, -, -, hb3, hat3⟩ := (HWAS.out wi (O12.out.seq (Off.of_below HB.out))).opn (by omega)
                    subst ha3
                    obtain ⟨sa, sc, hc3, hs3⟩ := hat3 n hlt
                    have HAT := Lib.hid ((L12.out.below HB.out).at (by decide) n (by rw [HL2.out]; exact hlt))
                    have hg := HGG.out n hlt
                    have hrs := (HPB.out.s (l.getD n []) (by rw [List.getD_eq_getElem?_getD, List.getElem?_eq_getElem hlt]; exact List.getElem_mem hlt)).2
                    obtain ⟨s, hs⟩ : ∃ s, l.getD n [] = s := ⟨_, rfl⟩
                    obtain ⟨s2, hs2⟩ : ∃ s, l2.getD n [] = s := ⟨_, rfl⟩
                    rw [hs] at hc3 hs3 hg hrs
                    rw [hs2] at HAT hg
                    have HC3 := Lib.hid (And.intro hb3 hc3)
                    have HS3 := Lib.hid hs3
                    have HLTN := Lib.hid hlt
                    have HRS := Lib.hid hrs
                    clear hat3 hs hs2 hb3 hc3 hs3 hrs
                    by_cases r1 : ((n : Nat) : Int) < p.i
                    · have d1 : decide (((n : Nat) : Int) < p.i) = true := decide_eq_true r1
                      have d3 : decide (p.i ≤ ((n : Nat) : Int)) = false := decide_eq_false (by omega)
                      obtain rfl : s = s2 := by rw [hg, if_neg (by omega)]
                      have HIN := Lib.hid r1
                      clear hg r1
                      go_wp2_with (first
                        | (go_at_call 9; (with_reducible refine HAT.out.mono ?_); rintro e W13 ⟨ua, uc, rfl, q, bb⟩; have HU := Lib.hid q; have HB13 := Lib.hid (below_add HB.out bb HB.out.size); have hcw : W13.cell? ⟨b3, o3 + n, none⟩ = some (.slice sa s.length sc) := (bb.cell HC3.out.1).trans HC3.out.2; have HS4 := Lib.hid (HS3.out.below bb (Nat.le_refl _)); have hc := C1.out.below (L12.out.below HB13.out).b; have c1 := hc.cell 1; have c2 := hc.cell 2; have c4 := hc.cell 4; clear hc q bb HAT)
                        | (go_at_call 18; (with_reducible refine (law_same _ _ s s _ HU.out HS4.out).mono ?_); rintro e W16 ⟨rfl, bb⟩; rw [decide_eq_true rfl]; have HB16 := Lib.hid (below_add HB13.out bb HB13.out.size); have HU6 := Lib.hid (HU.out.below bb (Nat.le_refl _)); have hc := C1.out.below (L12.out.below HB16.out).b; have c1 := hc.cell 1; have c2 := hc.cell 2; have c4 := hc.cell 4; clear hc bb))
                      clear c1 c2 c4

                      have hxl := HXL.out
                      go_loopw [173] (fun s173 wr => ∃ m : Nat, m ≤ p.x.length ∧ s173 = .int .i64 m ∧ Hid (Below W16.heap.size W16 wr)) (fun s173 _ => p.x.length - (intOf s173).toNat)
                      case atStart => exact ⟨0, Nat.zero_le _, rfl, Lib.hid (Below.refl _ _)⟩
                      case round =>
                        obtain ⟨m, hmn, rfl, HJ⟩ := hrel
                        obtain ⟨wj, hwj⟩ : ∃ x : World, x = wr := ⟨_, rfl⟩
                        subst hwj
                        by_cases hm : m < p.x.length
                        · have HBJ := Lib.hid (below_add HB16.out HJ.out HB16.out.size)
                          obtain ⟨bx, ox, hax, -, -, -, hbx, hatx⟩ := Crow.opn (HXR.out.below (L12.out.below HBJ.out).b (Nat.le_refl _)) (by omega)
                          subst hax
                          have hca := hatx m hm
                          have hcm := List.getElem_mem hm
                          obtain ⟨c, hc⟩ : ∃ c, p.x[m] = c := ⟨_, rfl⟩
                          rw [hc] at hca hcm
                          obtain ⟨ck, cg, cc1, cn, cf, cs⟩ := c
                          obtain ⟨x0, x1, x2, x3, x4, x5⟩ := hca
                          have HCM := Lib.hid hcm
                          have HCB := Lib.hid (fun w14 (bb : Below (wj.alloc (.cells (cca ⟨ck, cg, cc1, cn, cf, cs⟩) 50)).heap.size (wj.alloc (.cells (cca ⟨ck, cg, cc1, cn, cf, cs⟩) 50)) w14) (vs : Array Value) =>
                            (show Cb wj.heap.size 50 (cca ⟨ck, cg, cc1, cn, cf, cs⟩) (w14.alloc (.cells vs 48)) ∧ Cb w14.heap.size 48 vs (w14.alloc (.cells vs 48)) ∧ Below W12.heap.size W12 (w14.alloc (.cells vs 48)) ∧ Below wj.heap.size wj (w14.alloc (.cells vs 48)) from by
                              have b1 := below_alloc1 wj (.cells (cca ⟨ck, cg, cc1, cn, cf, cs⟩) 50)
                              have b2 := below_add b1 bb b1.size
                              have b3 := b2.alloc b2.size (.cells vs 48)
                              exact ⟨((cb_new wj 50 _).below bb).alloc _, cb_new w14 _ _, below_add HBJ.out b3 HBJ.out.size, b3⟩))
                          have HGT := Lib.hid (rget_any5 (.slice ua s.length uc) s ck (wj.alloc (.cells (cca ⟨ck, cg, cc1, cn, cf, cs⟩) 50)) (HU6.out.below (below_add HJ.out (below_alloc1 wj _) HJ.out.size) (Nat.le_refl _)))
                          clear hatx hc hcm hbx
                          cases hfa : getA s ck with
                          | some x9 =>
                            obtain ⟨z1, z2, z3, z4, z5⟩ := x9
                            rw [getV_some hfa] at HGT
                            clear hfa
                            go_upto_region 40 with (go_at_call 19; (with_reducible refine HGT.out.mono ?_); rintro e w14 ⟨rfl, bb⟩; have BG := Lib.hid bb; clear bb HGT)
                            refine with_worldT (fun W => Cb wj.heap.size 50 (cca ⟨ck, cg, cc1, cn, cf, cs⟩) W ∧ Cb w14.heap.size 48 (vcells z2 z3 z4 z5) W ∧ Below W12.heap.size W12 W ∧ Below wj.heap.size wj W) (HCB.out _ BG.out _) fun W15 hW15 => ?_
                            have k1 := hW15.1.cell 1
                            have k2 := hW15.1.cell 2
                            have k3 := hW15.1.cell 3
                            have k4 := hW15.1.cell 4
                            have k5 := hW15.1.cell 5
                            have j0 := hW15.2.1.cell 0
                            have j1 := hW15.2.1.cell 1
                            have j2 := hW15.2.1.cell 2
                            have j3 := hW15.2.1.cell 3
                            have hc := C1.out.below (L12.out.below hW15.2.2.1).b
                            have c1 := hc.cell 1
                            have c2 := hc.cell 2
                            have HB15 := Lib.hid (below_add HJ.out hW15.2.2.2 HJ.out.size)
                            clear hW15 hc
                            obtain ⟨bc, hbc⟩ : ∃ b, wj.heap.size = b := ⟨_, rfl⟩
                            obtain ⟨bv, hbv⟩ : ∃ b, w14.heap.size = b := ⟨_, rfl⟩
                            rw [hbc] at k1 k2 k3 k4 k5 ⊢
                            rw [hbv] at j0 j1 j2 j3 ⊢
                            have hq := fun w => val_neq_self cc1 cn cf cs w
                            go_wp2
                            go_roundw
                            case rel => exact ⟨m + 1, hm, by go_num, HB15⟩
                            case measure => simp only [intOf]; omega
                          | none =>
                            rw [getV_none hfa] at HGT
                            clear hfa
                            go_upto_region 40 with (go_at_call 19; (with_reducible refine HGT.out.mono ?_); rintro e w14 ⟨rfl, bb⟩; have BG := Lib.hid bb; clear bb HGT)
                            refine with_worldT (fun W => Cb wj.heap.size 50 (cca ⟨ck, cg, cc1, cn, cf, cs⟩) W ∧ Cb w14.heap.size 48 (vcells 0 0 0 ⟨#[]⟩) W ∧ Below W12.heap.size W12 W ∧ Below wj.heap.size wj W) (HCB.out _ BG.out _) fun W15 hW15 => ?_
                            have k1 := hW15.1.cell 1
                            have k2 := hW15.1.cell 2
                            have k3 := hW15.1.cell 3
                            have k4 := hW15.1.cell 4
                            have k5 := hW15.1.cell 5
                            have j0 := hW15.2.1.cell 0
                            have j1 := hW15.2.1.cell 1
                            have j2 := hW15.2.1.cell 2
                            have j3 := hW15.2.1.cell 3
                            have hc := C1.out.below (L12.out.below hW15.2.2.1).b
                            have c1 := hc.cell 1
                            have c2 := hc.cell 2
                            have HB15 := Lib.hid (below_add HJ.out hW15.2.2.2 HJ.out.size)
                            clear hW15 hc
                            obtain ⟨bc, hbc⟩ : ∃ b, wj.heap.size = b := ⟨_, rfl⟩
                            obtain ⟨bv, hbv⟩ : ∃ b, w14.heap.size = b := ⟨_, rfl⟩
                            rw [hbc] at k1 k2 k3 k4 k5 ⊢
                            rw [hbv] at j0 j1 j2 j3 ⊢
                            have hq := fun w => val_neq_self cc1 cn cf cs w
                            go_wp2
                            go_roundw
                            case rel => exact ⟨m + 1, hm, by go_num, HB15⟩
                            case measure => simp only [intOf]; omega
                        · obtain rfl : m = p.x.length := by omega
                          have HBJ := Lib.hid (below_add HB16.out HJ.out HB16.out.size)
                          have hll3 := HLL.out
                          go_wp2
                          go_roundw
                          case rel => exact ⟨n + 1, HLTN.out, by go_num, HBJ⟩
                          case measure => simp only [intOf]; have := HLTN.out; omega
                    · by_cases r2 : p.m ≤ ((n : Nat) : Int)
                      · have d1 : decide (((n : Nat) : Int) < p.i) = false := decide_eq_false r1
                        have d2 : decide (p.m ≤ ((n : Nat) : Int)) = true := decide_eq_true r2
                        have d3 : decide (p.i ≤ ((n : Nat) : Int)) = true := decide_eq_true (by omega)
                        have d4 : decide (((n : Nat) : Int) < p.m) = false := decide_eq_false (by omega)
                        obtain rfl : s = s2 := by rw [hg, if_neg (by omega)]
                        clear hg r1 r2
                        go_wp2_with (first
                          | (go_at_call 9; (with_reducible refine HAT.out.mono ?_); rintro e W13 ⟨ua, uc, rfl, q, bb⟩; have HU := Lib.hid q; have HB13 := Lib.hid (below_add HB.out bb HB.out.size); have hcw : W13.cell? ⟨b3, o3 + n, none⟩ = some (.slice sa s.length sc) := (bb.cell HC3.out.1).trans HC3.out.2; have HS4 := Lib.hid (HS3.out.below bb (Nat.le_refl _)); have hc := C1.out.below (L12.out.below HB13.out).b; have c1 := hc.cell 1; have c2 := hc.cell 2; have c4 := hc.cell 4; clear hc q bb HAT)
                          | (go_at_call 18; (with_reducible refine (law_same _ _ s s _ HU.out HS4.out).mono ?_); rintro e W16 ⟨rfl, bb⟩; rw [decide_eq_true rfl]; have HB16 := Lib.hid (below_add HB13.out bb HB13.out.size); have HU6 := Lib.hid (HU.out.below bb (Nat.le_refl _)); have hc := C1.out.below (L12.out.below HB16.out).b; have c1 := hc.cell 1; have c2 := hc.cell 2; have c4 := hc.cell 4; clear hc bb))
                        clear c1 c2 c4

                        have hxl := HXL.out
                        go_loopw [173] (fun s173 wr => ∃ m : Nat, m ≤ p.x.length ∧ s173 = .int .i64 m ∧ Hid (Below W16.heap.size W16 wr)) (fun s173 _ => p.x.length - (intOf s173).toNat)
                        case atStart => exact ⟨0, Nat.zero_le _, rfl, Lib.hid (Below.refl _ _)⟩
                        case round =>
                          obtain ⟨m, hmn, rfl, HJ⟩ := hrel
                          obtain ⟨wj, hwj⟩ : ∃ x : World, x = wr := ⟨_, rfl⟩
                          subst hwj
                          by_cases hm : m < p.x.length
                          · have HBJ := Lib.hid (below_add HB16.out HJ.out HB16.out.size)
                            obtain ⟨bx, ox, hax, -, -, -, hbx, hatx⟩ := Crow.opn (HXR.out.below (L12.out.below HBJ.out).b (Nat.le_refl _)) (by omega)
                            subst hax
                            have hca := hatx m hm
                            have hcm := List.getElem_mem hm
                            obtain ⟨c, hc⟩ : ∃ c, p.x[m] = c := ⟨_, rfl⟩
                            rw [hc] at hca hcm
                            obtain ⟨ck, cg, cc1, cn, cf, cs⟩ := c
                            obtain ⟨x0, x1, x2, x3, x4, x5⟩ := hca
                            have HCM := Lib.hid hcm
                            have HCB := Lib.hid (fun w14 (bb : Below (wj.alloc (.cells (cca ⟨ck, cg, cc1, cn, cf, cs⟩) 50)).heap.size (wj.alloc (.cells (cca ⟨ck, cg, cc1, cn, cf, cs⟩) 50)) w14) (vs : Array Value) =>
                              (show Cb wj.heap.size 50 (cca ⟨ck, cg, cc1, cn, cf, cs⟩) (w14.alloc (.cells vs 48)) ∧ Cb w14.heap.size 48 vs (w14.alloc (.cells vs 48)) ∧ Below W12.heap.size W12 (w14.alloc (.cells vs 48)) ∧ Below wj.heap.size wj (w14.alloc (.cells vs 48)) from by
                                have b1 := below_alloc1 wj (.cells (cca ⟨ck, cg, cc1, cn, cf, cs⟩) 50)
                                have b2 := below_add b1 bb b1.size
                                have b3 := b2.alloc b2.size (.cells vs 48)
                                exact ⟨((cb_new wj 50 _).below bb).alloc _, cb_new w14 _ _, below_add HBJ.out b3 HBJ.out.size, b3⟩))
                            have HGT := Lib.hid (rget_any5 (.slice ua s.length uc) s ck (wj.alloc (.cells (cca ⟨ck, cg, cc1, cn, cf, cs⟩) 50)) (HU6.out.below (below_add HJ.out (below_alloc1 wj _) HJ.out.size) (Nat.le_refl _)))
                            clear hatx hc hcm hbx
                            cases hfa : getA s ck with
                            | some x9 =>
                              obtain ⟨z1, z2, z3, z4, z5⟩ := x9
                              rw [getV_some hfa] at HGT
                              clear hfa
                              go_upto_region 40 with (go_at_call 19; (with_reducible refine HGT.out.mono ?_); rintro e w14 ⟨rfl, bb⟩; have BG := Lib.hid bb; clear bb HGT)
                              refine with_worldT (fun W => Cb wj.heap.size 50 (cca ⟨ck, cg, cc1, cn, cf, cs⟩) W ∧ Cb w14.heap.size 48 (vcells z2 z3 z4 z5) W ∧ Below W12.heap.size W12 W ∧ Below wj.heap.size wj W) (HCB.out _ BG.out _) fun W15 hW15 => ?_
                              have k1 := hW15.1.cell 1
                              have k2 := hW15.1.cell 2
                              have k3 := hW15.1.cell 3
                              have k4 := hW15.1.cell 4
                              have k5 := hW15.1.cell 5
                              have j0 := hW15.2.1.cell 0
                              have j1 := hW15.2.1.cell 1
                              have j2 := hW15.2.1.cell 2
                              have j3 := hW15.2.1.cell 3
                              have hc := C1.out.below (L12.out.below hW15.2.2.1).b
                              have c1 := hc.cell 1
                              have c2 := hc.cell 2
                              have HB15 := Lib.hid (below_add HJ.out hW15.2.2.2 HJ.out.size)
                              clear hW15 hc
                              obtain ⟨bc, hbc⟩ : ∃ b, wj.heap.size = b := ⟨_, rfl⟩
                              obtain ⟨bv, hbv⟩ : ∃ b, w14.heap.size = b := ⟨_, rfl⟩
                              rw [hbc] at k1 k2 k3 k4 k5 ⊢
                              rw [hbv] at j0 j1 j2 j3 ⊢
                              have hq := fun w => val_neq_self cc1 cn cf cs w
                              go_wp2
                              go_roundw
                              case rel => exact ⟨m + 1, hm, by go_num, HB15⟩
                              case measure => simp only [intOf]; omega
                            | none =>
                              rw [getV_none hfa] at HGT
                              clear hfa
                              go_upto_region 40 with (go_at_call 19; (with_reducible refine HGT.out.mono ?_); rintro e w14 ⟨rfl, bb⟩; have BG := Lib.hid bb; clear bb HGT)
                              refine with_worldT (fun W => Cb wj.heap.size 50 (cca ⟨ck, cg, cc1, cn, cf, cs⟩) W ∧ Cb w14.heap.size 48 (vcells 0 0 0 ⟨#[]⟩) W ∧ Below W12.heap.size W12 W ∧ Below wj.heap.size wj W) (HCB.out _ BG.out _) fun W15 hW15 => ?_
                              have k1 := hW15.1.cell 1
                              have k2 := hW15.1.cell 2
                              have k3 := hW15.1.cell 3
                              have k4 := hW15.1.cell 4
                              have k5 := hW15.1.cell 5
                              have j0 := hW15.2.1.cell 0
                              have j1 := hW15.2.1.cell 1
                              have j2 := hW15.2.1.cell 2
                              have j3 := hW15.2.1.cell 3
                              have hc := C1.out.below (L12.out.below hW15.2.2.1).b
                              have c1 := hc.cell 1
                              have c2 := hc.cell 2
                              have HB15 := Lib.hid (below_add HJ.out hW15.2.2.2 HJ.out.size)
                              clear hW15 hc
                              obtain ⟨bc, hbc⟩ : ∃ b, wj.heap.size = b := ⟨_, rfl⟩
                              obtain ⟨bv, hbv⟩ : ∃ b, w14.heap.size = b := ⟨_, rfl⟩
                              rw [hbc] at k1 k2 k3 k4 k5 ⊢
                              rw [hbv] at j0 j1 j2 j3 ⊢
                              have hq := fun w => val_neq_self cc1 cn cf cs w
                              go_wp2
                              go_roundw
                              case rel => exact ⟨m + 1, hm, by go_num, HB15⟩
                              case measure => simp only [intOf]; omega
                          · obtain rfl : m = p.x.length := by omega
                            have HBJ := Lib.hid (below_add HB16.out HJ.out HB16.out.size)
                            have hll3 := HLL.out
                            go_wp2
                            go_roundw
                            case rel => exact ⟨n + 1, HLTN.out, by go_num, HBJ⟩
                            case measure => simp only [intOf]; have := HLTN.out; omega
                      · have d1 : decide (((n : Nat) : Int) < p.i) = false := decide_eq_false r1
                        have d2 : decide (p.m ≤ ((n : Nat) : Int)) = false := decide_eq_false r2
                        have d3 : decide (p.i ≤ ((n : Nat) : Int)) = true := decide_eq_true (by omega)
                        have d4 : decide (((n : Nat) : Int) < p.m) = true := decide_eq_true (by omega)
                        have hs2 : s2 = app s p.x := by rw [hg, if_pos (by omega)]
                        have HKEY := Lib.hid (fun c (hc : c ∈ p.x) => pat_key (a := s) HRS.out HSO.out.2.2.1 hc)
                        rw [← hs2] at HKEY
                        clear hg r1 r2 hs2
                        go_wp2_with (first
                          | (go_at_call 9; (with_reducible refine HAT.out.mono ?_); rintro e W13 ⟨ua, uc, rfl, q, bb⟩; have HU := Lib.hid q; have HB13 := Lib.hid (below_add HB.out bb HB.out.size); have hcw : W13.cell? ⟨b3, o3 + n, none⟩ = some (.slice sa s.length sc) := (bb.cell HC3.out.1).trans HC3.out.2; have HS4 := Lib.hid (HS3.out.below bb (Nat.le_refl _)); have hc := C1.out.below (L12.out.below HB13.out).b; have c1 := hc.cell 1; have c2 := hc.cell 2; have c4 := hc.cell 4; clear hc q bb HAT))
                        clear c1 c2 c4

                        have hxl := HXL.out
                        go_loopw [173] (fun s173 wr => ∃ m : Nat, m ≤ p.x.length ∧ s173 = .int .i64 m ∧ Hid (Below W13.heap.size W13 wr)) (fun s173 _ => p.x.length - (intOf s173).toNat)
                        case atStart => exact ⟨0, Nat.zero_le _, rfl, Lib.hid (Below.refl _ _)⟩
                        case round =>
                          obtain ⟨m, hmn, rfl, HJ⟩ := hrel
                          obtain ⟨wj, hwj⟩ : ∃ x : World, x = wr := ⟨_, rfl⟩
                          subst hwj
                          by_cases hm : m < p.x.length
                          · have HBJ := Lib.hid (below_add HB13.out HJ.out HB13.out.size)
                            obtain ⟨bx, ox, hax, -, -, -, hbx, hatx⟩ := Crow.opn (HXR.out.below (L12.out.below HBJ.out).b (Nat.le_refl _)) (by omega)
                            subst hax
                            have hca := hatx m hm
                            have hcm := List.getElem_mem hm
                            obtain ⟨c, hc⟩ : ∃ c, p.x[m] = c := ⟨_, rfl⟩
                            rw [hc] at hca hcm
                            obtain ⟨ck, cg, cc1, cn, cf, cs⟩ := c
                            obtain ⟨x0, x1, x2, x3, x4, x5⟩ := hca
                            have HCM := Lib.hid hcm
                            have HCB := Lib.hid (fun w14 (bb : Below (wj.alloc (.cells (cca ⟨ck, cg, cc1, cn, cf, cs⟩) 50)).heap.size (wj.alloc (.cells (cca ⟨ck, cg, cc1, cn, cf, cs⟩) 50)) w14) (vs : Array Value) =>
                              (show Cb wj.heap.size 50 (cca ⟨ck, cg, cc1, cn, cf, cs⟩) (w14.alloc (.cells vs 48)) ∧ Cb w14.heap.size 48 vs (w14.alloc (.cells vs 48)) ∧ Below W12.heap.size W12 (w14.alloc (.cells vs 48)) ∧ Below wj.heap.size wj (w14.alloc (.cells vs 48)) from by
                                have b1 := below_alloc1 wj (.cells (cca ⟨ck, cg, cc1, cn, cf, cs⟩) 50)
                                have b2 := below_add b1 bb b1.size
                                have b3 := b2.alloc b2.size (.cells vs 48)
                                exact ⟨((cb_new wj 50 _).below bb).alloc _, cb_new w14 _ _, below_add HBJ.out b3 HBJ.out.size, b3⟩))
                            have HGT := Lib.hid (rget_any5 (.slice ua s2.length uc) s2 ck (wj.alloc (.cells (cca ⟨ck, cg, cc1, cn, cf, cs⟩) 50)) (HU.out.below (below_add HJ.out (below_alloc1 wj _) HJ.out.size) (Nat.le_refl _)))
                            clear hatx hc hcm hbx
                            have hk := HKEY.out _ HCM.out
                            cases cg
                            · have hgv : getV s2 ck = .tuple #[val cc1 cn cf cs, .bool true] := getV_some (by simpa [toA] using hk)
                              rw [hgv] at HGT
                              clear hk hgv
                              go_upto_region 40 with (go_at_call 19; (with_reducible refine HGT.out.mono ?_); rintro e w14 ⟨rfl, bb⟩; have BG := Lib.hid bb; clear bb HGT)
                              refine with_worldT (fun W => Cb wj.heap.size 50 (cca ⟨ck, false, cc1, cn, cf, cs⟩) W ∧ Cb w14.heap.size 48 (vcells cc1 cn cf cs) W ∧ Below W12.heap.size W12 W ∧ Below wj.heap.size wj W) (HCB.out _ BG.out _) fun W15 hW15 => ?_
                              have k1 := hW15.1.cell 1
                              have k2 := hW15.1.cell 2
                              have k3 := hW15.1.cell 3
                              have k4 := hW15.1.cell 4
                              have k5 := hW15.1.cell 5
                              have j0 := hW15.2.1.cell 0
                              have j1 := hW15.2.1.cell 1
                              have j2 := hW15.2.1.cell 2
                              have j3 := hW15.2.1.cell 3
                              have hc := C1.out.below (L12.out.below hW15.2.2.1).b
                              have c1 := hc.cell 1
                              have c2 := hc.cell 2
                              have HB15 := Lib.hid (below_add HJ.out hW15.2.2.2 HJ.out.size)
                              clear hW15 hc
                              obtain ⟨bc, hbc⟩ : ∃ b, wj.heap.size = b := ⟨_, rfl⟩
                              obtain ⟨bv, hbv⟩ : ∃ b, w14.heap.size = b := ⟨_, rfl⟩
                              rw [hbc] at k1 k2 k3 k4 k5 ⊢
                              rw [hbv] at j0 j1 j2 j3 ⊢
                              have hq := fun w => val_neq_self cc1 cn cf cs w
                              go_wp2
                              go_roundw
                              case rel => exact ⟨m + 1, hm, by go_num, HB15⟩
                              case measure => simp only [intOf]; omega
                            · have hgv : getV s2 ck = .tuple #[vv noAtt, .bool false] := getV_none (by simpa using hk)
                              rw [hgv] at HGT
                              clear hk hgv
                              go_upto_region 40 with (go_at_call 19; (with_reducible refine HGT.out.mono ?_); rintro e w14 ⟨rfl, bb⟩; have BG := Lib.hid bb; clear bb HGT)
                              refine with_worldT (fun W => Cb wj.heap.size 50 (cca ⟨ck, true, cc1, cn, cf, cs⟩) W ∧ Cb w14.heap.size 48 (vcells 0 0 0 ⟨#[]⟩) W ∧ Below W12.heap.size W12 W ∧ Below wj.heap.size wj W) (HCB.out _ BG.out _) fun W15 hW15 => ?_
                              have k1 := hW15.1.cell 1
                              have k2 := hW15.1.cell 2
                              have k3 := hW15.1.cell 3
                              have k4 := hW15.1.cell 4
                              have k5 := hW15.1.cell 5
                              have j0 := hW15.2.1.cell 0
                              have j1 := hW15.2.1.cell 1
                              have j2 := hW15.2.1.cell 2
                              have j3 := hW15.2.1.cell 3
                              have hc := C1.out.below (L12.out.below hW15.2.2.1).b
                              have c1 := hc.cell 1
                              have c2 := hc.cell 2
                              have HB15 := Lib.hid (below_add HJ.out hW15.2.2.2 HJ.out.size)
                              clear hW15 hc
                              obtain ⟨bc, hbc⟩ : ∃ b, wj.heap.size = b := ⟨_, rfl⟩
                              obtain ⟨bv, hbv⟩ : ∃ b, w14.heap.size = b := ⟨_, rfl⟩
                              rw [hbc] at k1 k2 k3 k4 k5 ⊢
                              rw [hbv] at j0 j1 j2 j3 ⊢
                              have hq := fun w => val_neq_self cc1 cn cf cs w
                              go_wp2
                              go_roundw
                              case rel => exact ⟨m + 1, hm, by go_num, HB15⟩
                              case measure => simp only [intOf]; omega
                          · obtain rfl : m = p.x.length := by omega
                            have HBJ := Lib.hid (below_add HB13.out HJ.out HB13.out.size)
                            have hll3 := HLL.out
                            go_wp2
                            go_roundw
                            case rel => exact ⟨n + 1, HLTN.out, by go_num, HBJ⟩
                            case measure => simp only [intOf]; have := HLTN.out; omega
                  · obtain rfl : n = l.length := by omega
                    have ZL := Lib.hid (L12.out.below HB.out)
                    go_wp2_with (go_at_call 8; refine (known13_any _).mono ?_; rintro e wk ⟨rfl, bb⟩; have ZK := Lib.hid (ZL.out.below bb); clear bb)
                    go_ret
                    exact ⟨rfl, below_add HB1.out ZK.out.b HB1.out.size⟩
              · go_wp2_with (first
                  | (go_at_call 14; (with_reducible refine L10.out.len.mono ?_); rintro e W11 ⟨rfl, bb⟩; have L11 := Lib.hid (L10.out.below bb); have hc := C1.out.below L11.out.b; have c1 := hc.cell 1; have c2 := hc.cell 2; have c4 := hc.cell 4; clear hc bb L10 O10)
                  | (go_at_call 13; (with_reducible refine (L11.out.pat (by decide) HSO.out HXR.out).mono ?_); rintro e W12 ⟨rfl, q, oo⟩; have L12 := Lib.hid q; clear q oo L11 c1 c2 c4)
                  | (go_at_call 8; refine (known13_any _).mono ?_; rintro e wk ⟨rfl, bb⟩; have ZK := Lib.hid (L12.out.below bb); clear bb))
                go_ret
                exact ⟨rfl, below_add HB1.out ZK.out.b HB1.out.size⟩
        · have HINS := Lib.hid (fun X W (h : LX X w1 rb 60 l W) => h.ins (by decide) HSO.out HNR.out)
          have hno : insL l p.i p.L = l := insL_no (by rw [e1]; decide)
          rw [e1, hno] at HINS
          clear e1 hno
          go_wp2_with (first
            | (go_at_call 14; (with_reducible refine L5.out.len.mono ?_); rintro e w6 ⟨rfl, bb⟩; have L6 := Lib.hid (L5.out.below bb); clear bb L5)
            | (go_at_call 10; go_loud ((with_reducible refine (L6.out.was (by decide)).mono ?_); rintro e w7 ⟨a3, c3', X, rfl, q, hw⟩; have L7 := Lib.hid q; have HWAS := Lib.hid hw; have O7 := Lib.hid (Off.refl X w7); have hc := C1.out.below q.b; have c1 := hc.cell 1; have c3 := hc.cell 3; clear hc q hw L6))
            | (go_at_call 11; go_loud ((with_reducible refine (HINS.out _ _ L7.out).mono ?_); rintro e W9 ⟨rfl, q, oo⟩; have L9 := Lib.hid (q.pb (q.p.le (m := 62) (by decide))); have O9 := Lib.hid (O7.out.seq oo); clear q oo L7 O7 HINS c1 c3)))
          have hll2 := HLL.out
          go_loopw [100] (fun s100 wr => ∃ n : Nat, n ≤ l.length ∧ s100 = .int .i64 n ∧ Hid (Below W9.heap.size W9 wr)) (fun s100 _ => l.length - (intOf s100).toNat)
          case atStart => exact ⟨0, Nat.zero_le _, rfl, Lib.hid (Below.refl _ _)⟩
          case round =>
            obtain ⟨n, hn, rfl, HB⟩ := hrel
            obtain ⟨wi, hwi⟩ : ∃ x : World, x = wr := ⟨_, rfl⟩
            subst hwi
            by_cases hlt : n < l.length
            · obtain ⟨b3, o3, ha3, -, -, -, hb3, hat3⟩ := (HWAS.out wi (O9.out.seq (Off.of_below HB.out))).opn (by omega)
              subst ha3
              obtain ⟨sa, sc, hc3, hs3⟩ := hat3 n hlt
              have HAT := Lib.hid ((L9.out.below HB.out).at (by decide) n hlt)
              obtain ⟨s, hs⟩ : ∃ s, l.getD n [] = s := ⟨_, rfl⟩
              rw [hs] at HAT hc3 hs3
              have HC3 := Lib.hid (And.intro hb3 hc3)
              have HS3 := Lib.hid hs3
              clear hat3 hs hb3 hc3 hs3
              go_wp2_with (first
                | (go_at_call 9; (with_reducible refine HAT.out.mono ?_); rintro e W10 ⟨ua, uc, rfl, q, bb⟩; have HU := Lib.hid q; have HB10 := Lib.hid (below_add HB.out bb HB.out.size); have hcw : W10.cell? ⟨b3, o3 + n, none⟩ = some (.slice sa s.length sc) := (bb.cell HC3.out.1).trans HC3.out.2; have HS4 := Lib.hid (HS3.out.below bb (Nat.le_refl _)); clear q bb HAT)
                | (go_at_call 18; (with_reducible refine (law_same _ _ s s _ HU.out HS4.out).mono ?_); rintro e W11 ⟨rfl, bb⟩; rw [decide_eq_true rfl]; have HB11 := Lib.hid (below_add HB10.out bb HB10.out.size); clear bb))
              go_roundw
              case rel => exact ⟨n + 1, hlt, by go_num, HB11⟩
              case measure => simp only [intOf]; omega
            · obtain rfl : n = l.length := by omega
              have L10 := Lib.hid (L9.out.below HB.out)
              have O10 := Lib.hid (O9.out.seq (Off.of_below HB.out))
              clear L9 O9 HB
              rcases mrE_two l.length p.i p.m with e2 | e2
              · have HGG := Lib.hid (fun n hn => pat_get (X := p.x) e2 (k := n) hn)
                have hlen2 := patL_len l p.i p.m p.x
                obtain ⟨l2, hl2⟩ : ∃ x, patL l p.i p.m p.x = x := ⟨_, rfl⟩
                have HPT := Lib.hid (fun W (h : LX X w1 rb 62 l W) => h.pat (by decide) HSO.out HXR.out)
                rw [hl2, e2] at HPT
                rw [hl2] at HGG hlen2
                have HL2 := Lib.hid hlen2
                clear hl2 hlen2 e2
                go_wp2_with (first
                  | (go_at_call 14; (with_reducible refine L10.out.len.mono ?_); rintro e W11 ⟨rfl, bb⟩; have L11 := Lib.hid (L10.out.below bb); have O11 := Lib.hid (O10.out.seq (Off.of_below bb)); have hc := C1.out.below L11.out.b; have c1 := hc.cell 1; have c2 := hc.cell 2; have c4 := hc.cell 4; clear hc bb L10 O10)
                  | (go_at_call 13; (with_reducible refine (HPT.out _ L11.out).mono ?_); rintro e W12 ⟨rfl, q, oo⟩; have L12 := Lib.hid q; have O12 := Lib.hid (O11.out.seq oo); clear q oo L11 O11 HPT c1 c2 c4))
                go_loopw [138] (fun s138 wr => ∃ n : Nat, n ≤ l.length ∧ s138 = .int .i64 n ∧ Hid (Below W12.heap.size W12 wr)) (fun s138 _ => l.length - (intOf s138).toNat)
                case atStart => exact ⟨0, Nat.zero_le _, rfl, Lib.hid (Below.refl _ _)⟩
                case round =>
                  obtain ⟨n, hn, rfl, HB⟩ := hrel
                  obtain ⟨wi, hwi⟩ : ∃ x : World, x = wr := ⟨_, rfl⟩
                  subst hwi
                  by_cases hlt : n < l.length
                  · obtain ⟨b3, o3, ha3, -, -, -, hb3, hat3⟩ := (HWAS.out wi (O12.out.seq (Off.of_below HB.out))).opn (by omega)
                    subst ha3
                    obtain ⟨sa, sc, hc3, hs3⟩ := hat3 n hlt
                    have HAT := Lib.hid ((L12.out.below HB.out).at (by decide) n (by rw [HL2.out]; exact hlt))
                    have hg := HGG.out n hlt
                    have hrs := (HPB.out.s (l.getD n []) (by rw [List.getD_eq_getElem?_getD, List.getElem?_eq_getElem hlt]; exact List.getElem_mem hlt)).2
                    obtain ⟨s, hs⟩ : ∃ s, l.getD n [] = s := ⟨_, rfl⟩
                    obtain ⟨s2, hs2⟩ : ∃ s, l2.getD n [] = s := ⟨_, rfl⟩
                    rw [hs] at hc3 hs3 hg hrs
                    rw [hs2] at HAT hg
                    have HC3 := Lib.hid (And.intro hb3 hc3)
                    have HS3 := Lib.hid hs3
                    have HLTN := Lib.hid hlt
                    have HRS := Lib.hid hrs
                    clear hat3 hs hs2 hb3 hc3 hs3 hrs
                    by_cases r1 : ((n : Nat) : Int) < p.i
                    · have d1 : decide (((n : Nat) : Int) < p.i) = true := decide_eq_true r1
                      have d3 : decide (p.i ≤ ((n : Nat) : Int)) = false := decide_eq_false (by omega)
                      obtain rfl : s = s2 := by rw [hg, if_neg (by omega)]
                      have HIN := Lib.hid r1
                      clear hg r1
                      go_wp2_with (first
                        | (go_at_call 9; (with_reducible refine HAT.out.mono ?_); rintro e W13 ⟨ua, uc, rfl, q, bb⟩; have HU := Lib.hid q; have HB13 := Lib.hid (below_add HB.out bb HB.out.size); have hcw : W13.cell? ⟨b3, o3 + n, none⟩ = some (.slice sa s.length sc) := (bb.cell HC3.out.1).trans HC3.out.2; have HS4 := Lib.hid (HS3.out.below bb (Nat.le_refl _)); have hc := C1.out.below (L12.out.below HB13.out).b; have c1 := hc.cell 1; have c2 := hc.cell 2; have c4 := hc.cell 4; clear hc q bb HAT)
                        | (go_at_call 18; (with_reducible refine (law_same _ _ s s _ HU.out HS4.out).mono ?_); rintro e W16 ⟨rfl, bb⟩; rw [decide_eq_true rfl]; have HB16 := Lib.hid (below_add HB13.out bb HB13.out.size); have HU6 := Lib.hid (HU.out.below bb (Nat.le_refl _)); have hc := C1.out.below (L12.out.below HB16.out).b; have c1 := hc.cell 1; have c2 := hc.cell 2; have c4 := hc.cell 4; clear hc bb))
                      clear c1 c2 c4

                      have hxl := HXL.out
                      go_loopw [173] (fun s173 wr => ∃ m : Nat, m ≤ p.x.length ∧ s173 = .int .i64 m ∧ Hid (Below W16.heap.size W16 wr)) (fun s173 _ => p.x.length - (intOf s173).toNat)
                      case atStart => exact ⟨0, Nat.zero_le _, rfl, Lib.hid (Below.refl _ _)⟩
                      case round =>
                        obtain ⟨m, hmn, rfl, HJ⟩ := hrel
                        obtain ⟨wj, hwj⟩ : ∃ x : World, x = wr := ⟨_, rfl⟩
                        subst hwj
                        by_cases hm : m < p.x.length
                        · have HBJ := Lib.hid (below_add HB16.out HJ.out HB16.out.size)
                          obtain ⟨bx, ox, hax, -, -, -, hbx, hatx⟩ := Crow.opn (HXR.out.below (L12.out.below HBJ.out).b (Nat.le_refl _)) (by omega)
                          subst hax
                          have hca := hatx m hm
                          have hcm := List.getElem_mem hm
                          obtain ⟨c, hc⟩ : ∃ c, p.x[m] = c := ⟨_, rfl⟩
                          rw [hc] at hca hcm
                          obtain ⟨ck, cg, cc1, cn, cf, cs⟩ := c
                          obtain ⟨x0, x1, x2, x3, x4, x5⟩ := hca
                          have HCM := Lib.hid hcm
                          have HCB := Lib.hid (fun w14 (bb : Below (wj.alloc (.cells (cca ⟨ck, cg, cc1, cn, cf, cs⟩) 50)).heap.size (wj.alloc (.cells (cca ⟨ck, cg, cc1, cn, cf, cs⟩) 50)) w14) (vs : Array Value) =>
                            (show Cb wj.heap.size 50 (cca ⟨ck, cg, cc1, cn, cf, cs⟩) (w14.alloc (.cells vs 48)) ∧ Cb w14.heap.size 48 vs (w14.alloc (.cells vs 48)) ∧ Below W12.heap.size W12 (w14.alloc (.cells vs 48)) ∧ Below wj.heap.size wj (w14.alloc (.cells vs 48)) from by
                              have b1 := below_alloc1 wj (.cells (cca ⟨ck, cg, cc1, cn, cf, cs⟩) 50)
                              have b2 := below_add b1 bb b1.size
                              have b3 := b2.alloc b2.size (.cells vs 48)
                              exact ⟨((cb_new wj 50 _).below bb).alloc _, cb_new w14 _ _, below_add HBJ.out b3 HBJ.out.size, b3⟩))
                          have HGT := Lib.hid (rget_any5 (.slice ua s.length uc) s ck (wj.alloc (.cells (cca ⟨ck, cg, cc1, cn, cf, cs⟩) 50)) (HU6.out.below (below_add HJ.out (below_alloc1 wj _) HJ.out.size) (Nat.le_refl _)))
                          clear hatx hc hcm hbx
                          cases hfa : getA s ck with
                          | some x9 =>
                            obtain ⟨z1, z2, z3, z4, z5⟩ := x9
                            rw [getV_some hfa] at HGT
                            clear hfa
                            go_upto_region 40 with (go_at_call 19; (with_reducible refine HGT.out.mono ?_); rintro e w14 ⟨rfl, bb⟩; have BG := Lib.hid bb; clear bb HGT)
                            refine with_worldT (fun W => Cb wj.heap.size 50 (cca ⟨ck, cg, cc1, cn, cf, cs⟩) W ∧ Cb w14.heap.size 48 (vcells z2 z3 z4 z5) W ∧ Below W12.heap.size W12 W ∧ Below wj.heap.size wj W) (HCB.out _ BG.out _) fun W15 hW15 => ?_
                            have k1 := hW15.1.cell 1
                            have k2 := hW15.1.cell 2
                            have k3 := hW15.1.cell 3
                            have k4 := hW15.1.cell 4
                            have k5 := hW15.1.cell 5
                            have j0 := hW15.2.1.cell 0
                            have j1 := hW15.2.1.cell 1
                            have j2 := hW15.2.1.cell 2
                            have j3 := hW15.2.1.cell 3
                            have hc := C1.out.below (L12.out.below hW15.2.2.1).b
                            have c1 := hc.cell 1
                            have c2 := hc.cell 2
                            have HB15 := Lib.hid (below_add HJ.out hW15.2.2.2 HJ.out.size)
                            clear hW15 hc
                            obtain ⟨bc, hbc⟩ : ∃ b, wj.heap.size = b := ⟨_, rfl⟩
                            obtain ⟨bv, hbv⟩ : ∃ b, w14.heap.size = b := ⟨_, rfl⟩
                            rw [hbc] at k1 k2 k3 k4 k5 ⊢
                            rw [hbv] at j0 j1 j2 j3 ⊢
                            have hq := fun w => val_neq_self cc1 cn cf cs w
                            go_wp2
                            go_roundw
                            case rel => exact ⟨m + 1, hm, by go_num, HB15⟩
                            case measure => simp only [intOf]; omega
                          | none =>
                            rw [getV_none hfa] at HGT
                            clear hfa
                            go_upto_region 40 with (go_at_call 19; (with_reducible refine HGT.out.mono ?_); rintro e w14 ⟨rfl, bb⟩; have BG := Lib.hid bb; clear bb HGT)
                            refine with_worldT (fun W => Cb wj.heap.size 50 (cca ⟨ck, cg, cc1, cn, cf, cs⟩) W ∧ Cb w14.heap.size 48 (vcells 0 0 0 ⟨#[]⟩) W ∧ Below W12.heap.size W12 W ∧ Below wj.heap.size wj W) (HCB.out _ BG.out _) fun W15 hW15 => ?_
                            have k1 := hW15.1.cell 1
                            have k2 := hW15.1.cell 2
                            have k3 := hW15.1.cell 3
                            have k4 := hW15.1.cell 4
                            have k5 := hW15.1.cell 5
                            have j0 := hW15.2.1.cell 0
                            have j1 := hW15.2.1.cell 1
                            have j2 := hW15.2.1.cell 2
                            have j3 := hW15.2.1.cell 3
                            have hc := C1.out.below (L12.out.below hW15.2.2.1).b
                            have c1 := hc.cell 1
                            have c2 := hc.cell 2
                            have HB15 := Lib.hid (below_add HJ.out hW15.2.2.2 HJ.out.size)
                            clear hW15 hc
                            obtain ⟨bc, hbc⟩ : ∃ b, wj.heap.size = b := ⟨_, rfl⟩
                            obtain ⟨bv, hbv⟩ : ∃ b, w14.heap.size = b := ⟨_, rfl⟩
                            rw [hbc] at k1 k2 k3 k4 k5 ⊢
                            rw [hbv] at j0 j1 j2 j3 ⊢
                            have hq := fun w => val_neq_self cc1 cn cf cs w
                            go_wp2
                            go_roundw
                            case rel => exact ⟨m + 1, hm, by go_num, HB15⟩
                            case measure => simp only [intOf]; omega
                        · obtain rfl : m = p.x.length := by omega
                          have HBJ := Lib.hid (below_add HB16.out HJ.out HB16.out.size)
                          have hll3 := HLL.out
                          go_wp2
                          go_roundw
                          case rel => exact ⟨n + 1, HLTN.out, by go_num, HBJ⟩
                          case measure => simp only [intOf]; have := HLTN.out; omega
                    · by_cases r2 : p.m ≤ ((n : Nat) : Int)
                      · have d1 : decide (((n : Nat) : Int) < p.i) = false := decide_eq_false r1
                        have d2 : decide (p.m ≤ ((n : Nat) : Int)) = true := decide_eq_true r2
                        have d3 : decide (p.i ≤ ((n : Nat) : Int)) = true := decide_eq_true (by omega)
                        have d4 : decide (((n : Nat) : Int) < p.m) = false := decide_eq_false (by omega)
                        obtain rfl : s = s2 := by rw [hg, if_neg (by omega)]
                        clear hg r1 r2
                        go_wp2_with (first
                          | (go_at_call 9; (with_reducible refine HAT.out.mono ?_); rintro e W13 ⟨ua, uc, rfl, q, bb⟩; have HU := Lib.hid q; have HB13 := Lib.hid (below_add HB.out bb HB.out.size); have hcw : W13.cell? ⟨b3, o3 + n, none⟩ = some (.slice sa s.length sc) := (bb.cell HC3.out.1).trans HC3.out.2; have HS4 := Lib.hid (HS3.out.below bb (Nat.le_refl _)); have hc := C1.out.below (L12.out.below HB13.out).b; have c1 := hc.cell 1; have c2 := hc.cell 2; have c4 := hc.cell 4; clear hc q bb HAT)
                          | (go_at_call 18; (with_reducible refine (law_same _ _ s s _ HU.out HS4.out).mono ?_); rintro e W16 ⟨rfl, bb⟩; rw [decide_eq_true rfl]; have HB16 := Lib.hid (below_add HB13.out bb HB13.out.size); have HU6 := Lib.hid (HU.out.below bb (Nat.le_refl _)); have hc := C1.out.below (L12.out.below HB16.out).b; have c1 := hc.cell 1; have c2 := hc.cell 2; have c4 := hc.cell 4; clear hc bb))
                        clear c1 c2 c4

                        have hxl := HXL.out
                        go_loopw [173] (fun s173 wr => ∃ m : Nat, m ≤ p.x.length ∧ s173 = .int .i64 m ∧ Hid (Below W16.heap.size W16 wr)) (fun s173 _ => p.x.length - (intOf s173).toNat)
                        case atStart => exact ⟨0, Nat.zero_le _, rfl, Lib.hid (Below.refl _ _)⟩
                        case round =>
                          obtain ⟨m, hmn, rfl, HJ⟩ := hrel
                          obtain ⟨wj, hwj⟩ : ∃ x : World, x = wr := ⟨_, rfl⟩
                          subst hwj
                          by_cases hm : m < p.x.length
                          · have HBJ := Lib.hid (below_add HB16.out HJ.out HB16.out.size)
                            obtain ⟨bx, ox, hax, -, -, -, hbx, hatx⟩ := Crow.opn (HXR.out.below (L12.out.below HBJ.out).b (Nat.le_refl _)) (by omega)
                            subst hax
                            have hca := hatx m hm
                            have hcm := List.getElem_mem hm
                            obtain ⟨c, hc⟩ : ∃ c, p.x[m] = c := ⟨_, rfl⟩
                            rw [hc] at hca hcm
                            obtain ⟨ck, cg, cc1, cn, cf, cs⟩ := c
                            obtain ⟨x0, x1, x2, x3, x4, x5⟩ := hca
                            have HCM := Lib.hid hcm
                            have HCB := Lib.hid (fun w14 (bb : Below (wj.alloc (.cells (cca ⟨ck, cg, cc1, cn, cf, cs⟩) 50)).heap.size (wj.alloc (.cells (cca ⟨ck, cg, cc1, cn, cf, cs⟩) 50)) w14) (vs : Array Value) =>
                              (show Cb wj.heap.size 50 (cca ⟨ck, cg, cc1, cn, cf, cs⟩) (w14.alloc (.cells vs 48)) ∧ Cb w14.heap.size 48 vs (w14.alloc (.cells vs 48)) ∧ Below W12.heap.size W12 (w14.alloc (.cells vs 48)) ∧ Below wj.heap.size wj (w14.alloc (.cells vs 48)) from by
                                have b1 := below_alloc1 wj (.cells (cca ⟨ck, cg, cc1, cn, cf, cs⟩) 50)
                                have b2 := below_add b1 bb b1.size
                                have b3 := b2.alloc b2.size (.cells vs 48)
                                exact ⟨((cb_new wj 50 _).below bb).alloc _, cb_new w14 _ _, below_add HBJ.out b3 HBJ.out.size, b3⟩))
                            have HGT := Lib.hid (rget_any5 (.slice ua s.length uc) s ck (wj.alloc (.cells (cca ⟨ck, cg, cc1, cn, cf, cs⟩) 50)) (HU6.out.below (below_add HJ.out (below_alloc1 wj _) HJ.out.size) (Nat.le_refl _)))
                            clear hatx hc hcm hbx
                            cases hfa : getA s ck with
                            | some x9 =>
                              obtain ⟨z1, z2, z3, z4, z5⟩ := x9
                              rw [getV_some hfa] at HGT
                              clear hfa
                              go_upto_region 40 with (go_at_call 19; (with_reducible refine HGT.out.mono ?_); rintro e w14 ⟨rfl, bb⟩; have BG := Lib.hid bb; clear bb HGT)
                              refine with_worldT (fun W => Cb wj.heap.size 50 (cca ⟨ck, cg, cc1, cn, cf, cs⟩) W ∧ Cb w14.heap.size 48 (vcells z2 z3 z4 z5) W ∧ Below W12.heap.size W12 W ∧ Below wj.heap.size wj W) (HCB.out _ BG.out _) fun W15 hW15 => ?_
                              have k1 := hW15.1.cell 1
                              have k2 := hW15.1.cell 2
                              have k3 := hW15.1.cell 3
                              have k4 := hW15.1.cell 4
                              have k5 := hW15.1.cell 5
                              have j0 := hW15.2.1.cell 0
                              have j1 := hW15.2.1.cell 1
                              have j2 := hW15.2.1.cell 2
                              have j3 := hW15.2.1.cell 3
                              have hc := C1.out.below (L12.out.below hW15.2.2.1).b
                              have c1 := hc.cell 1
                              have c2 := hc.cell 2
                              have HB15 := Lib.hid (below_add HJ.out hW15.2.2.2 HJ.out.size)
                              clear hW15 hc
                              obtain ⟨bc, hbc⟩ : ∃ b, wj.heap.size = b := ⟨_, rfl⟩
                              obtain ⟨bv, hbv⟩ : ∃ b, w14.heap.size = b := ⟨_, rfl⟩
                              rw [hbc] at k1 k2 k3 k4 k5 ⊢
                              rw [hbv] at j0 j1 j2 j3 ⊢
                              have hq := fun w => val_neq_self cc1 cn cf cs w
                              go_wp2
                              go_roundw
                              case rel => exact ⟨m + 1, hm, by go_num, HB15⟩
                              case measure => simp only [intOf]; omega
                            | none =>
                              rw [getV_none hfa] at HGT
                              clear hfa
                              go_upto_region 40 with (go_at_call 19; (with_reducible refine HGT.out.mono ?_); rintro e w14 ⟨rfl, bb⟩; have BG := Lib.hid bb; clear bb HGT)
                              refine with_worldT (fun W => Cb wj.heap.size 50 (cca ⟨ck, cg, cc1, cn, cf, cs⟩) W ∧ Cb w14.heap.size 48 (vcells 0 0 0 ⟨#[]⟩) W ∧ Below W12.heap.size W12 W ∧ Below wj.heap.size wj W) (HCB.out _ BG.out _) fun W15 hW15 => ?_
                              have k1 := hW15.1.cell 1
                              have k2 := hW15.1.cell 2
                              have k3 := hW15.1.cell 3
                              have k4 := hW15.1.cell 4
                              have k5 := hW15.1.cell 5
                              have j0 := hW15.2.1.cell 0
                              have j1 := hW15.2.1.cell 1
                              have j2 := hW15.2.1.cell 2
                              have j3 := hW15.2.1.cell 3
                              have hc := C1.out.below (L12.out.below hW15.2.2.1).b
                              have c1 := hc.cell 1
                              have c2 := hc.cell 2
                              have HB15 := Lib.hid (below_add HJ.out hW15.2.2.2 HJ.out.size)
                              clear hW15 hc
                              obtain ⟨bc, hbc⟩ : ∃ b, wj.heap.size = b := ⟨_, rfl⟩
                              obtain ⟨bv, hbv⟩ : ∃ b, w14.heap.size = b := ⟨_, rfl⟩
                              rw [hbc] at k1 k2 k3 k4 k5 ⊢
                              rw [hbv] at j0 j1 j2 j3 ⊢
                              have hq := fun w => val_neq_self cc1 cn cf cs w
                              go_wp2
                              go_roundw
                              case rel => exact ⟨m + 1, hm, by go_num, HB15⟩
                              case measure => simp only [intOf]; omega
                          · obtain rfl : m = p.x.length := by omega
                            have HBJ := Lib.hid (below_add HB16.out HJ.out HB16.out.size)
                            have hll3 := HLL.out
                            go_wp2
                            go_roundw
                            case rel => exact ⟨n + 1, HLTN.out, by go_num, HBJ⟩
                            case measure => simp only [intOf]; have := HLTN.out; omega
                      · have d1 : decide (((n : Nat) : Int) < p.i) = false := decide_eq_false r1
                        have d2 : decide (p.m ≤ ((n : Nat) : Int)) = false := decide_eq_false r2
                        have d3 : decide (p.i ≤ ((n : Nat) : Int)) = true := decide_eq_true (by omega)
                        have d4 : decide (((n : Nat) : Int) < p.m) = true := decide_eq_true (by omega)
                        have hs2 : s2 = app s p.x := by rw [hg, if_pos (by omega)]
                        have HKEY := Lib.hid (fun c (hc : c ∈ p.x) => pat_key (a := s) HRS.out HSO.out.2.2.1 hc)
                        rw [← hs2] at HKEY
                        clear hg r1 r2 hs2
                        go_wp2_with (first
                          | (go_at_call 9; (with_reducible refine HAT.out.mono ?_); rintro e W13 ⟨ua, uc, rfl, q, bb⟩; have HU := Lib.hid q; have HB13 := Lib.hid (below_add HB.out bb HB.out.size); have hcw : W13.cell? ⟨b3, o3 + n, none⟩ = some (.slice sa s.length sc) := (bb.cell HC3.out.1).trans HC3.out.2; have HS4 := Lib.hid (HS3.out.below bb (Nat.le_refl _)); have hc := C1.out.below (L12.out.below HB13.out).b; have c1 := hc.cell 1; have c2 := hc.cell 2; have c4 := hc.cell 4; clear hc q bb HAT))
                        clear c1 c2 c4

                        have hxl := HXL.out
                        go_loopw [173] (fun s173 wr => ∃ m : Nat, m ≤ p.x.length ∧ s173 = .int .i64 m ∧ Hid (Below W13.heap.size W13 wr)) (fun s173 _ => p.x.length - (intOf s173).toNat)
                        case atStart => exact ⟨0, Nat.zero_le _, rfl, Lib.hid (Below.refl _ _)⟩
                        case round =>
                          obtain ⟨m, hmn, rfl, HJ⟩ := hrel
                          obtain ⟨wj, hwj⟩ : ∃ x : World, x = wr := ⟨_, rfl⟩
                          subst hwj
                          by_cases hm : m < p.x.length
                          · have HBJ := Lib.hid (below_add HB13.out HJ.out HB13.out.size)
                            obtain ⟨bx, ox, hax, -, -, -, hbx, hatx⟩ := Crow.opn (HXR.out.below (L12.out.below HBJ.out).b (Nat.le_refl _)) (by omega)
                            subst hax
                            have hca := hatx m hm
                            have hcm := List.getElem_mem hm
                            obtain ⟨c, hc⟩ : ∃ c, p.x[m] = c := ⟨_, rfl⟩
                            rw [hc] at hca hcm
                            obtain ⟨ck, cg, cc1, cn, cf, cs⟩ := c
                            obtain ⟨x0, x1, x2, x3, x4, x5⟩ := hca
                            have HCM := Lib.hid hcm
                            have HCB := Lib.hid (fun w14 (bb : Below (wj.alloc (.cells (cca ⟨ck, cg, cc1, cn, cf, cs⟩) 50)).heap.size (wj.alloc (.cells (cca ⟨ck, cg, cc1, cn, cf, cs⟩) 50)) w14) (vs : Array Value) =>
                              (show Cb wj.heap.size 50 (cca ⟨ck, cg, cc1, cn, cf, cs⟩) (w14.alloc (.cells vs 48)) ∧ Cb w14.heap.size 48 vs (w14.alloc (.cells vs 48)) ∧ Below W12.heap.size W12 (w14.alloc (.cells vs 48)) ∧ Below wj.heap.size wj (w14.alloc (.cells vs 48)) from by
                                have b1 := below_alloc1 wj (.cells (cca ⟨ck, cg, cc1, cn, cf, cs⟩) 50)
                                have b2 := below_add b1 bb b1.size
                                have b3 := b2.alloc b2.size (.cells vs 48)
                                exact ⟨((cb_new wj 50 _).below bb).alloc _, cb_new w14 _ _, below_add HBJ.out b3 HBJ.out.size, b3⟩))
                            have HGT := Lib.hid (rget_any5 (.slice ua s2.length uc) s2 ck (wj.alloc (.cells (cca ⟨ck, cg, cc1, cn, cf, cs⟩) 50)) (HU.out.below (below_add HJ.out (below_alloc1 wj _) HJ.out.size) (Nat.le_refl _)))
                            clear hatx hc hcm hbx
                            have hk := HKEY.out _ HCM.out
                            cases cg
                            · have hgv : getV s2 ck = .tuple #[val cc1 cn cf cs, .bool true] := getV_some (by simpa [toA] using hk)
                              rw [hgv] at HGT
                              clear hk hgv
                              go_upto_region 40 with (go_at_call 19; (with_reducible refine HGT.out.mono ?_); rintro e w14 ⟨rfl, bb⟩; have BG := Lib.hid bb; clear bb HGT)
                              refine with_worldT (fun W => Cb wj.heap.size 50 (cca ⟨ck, false, cc1, cn, cf, cs⟩) W ∧ Cb w14.heap.size 48 (vcells cc1 cn cf cs) W ∧ Below W12.heap.size W12 W ∧ Below wj.heap.size wj W) (HCB.out _ BG.out _) fun W15 hW15 => ?_
                              have k1 := hW15.1.cell 1
                              have k2 := hW15.1.cell 2
                              have k3 := hW15.1.cell 3
                              have k4 := hW15.1.cell 4
                              have k5 := hW15.1.cell 5
                              have j0 := hW15.2.1.cell 0
                              have j1 := hW15.2.1.cell 1
                              have j2 := hW15.2.1.cell 2
                              have j3 := hW15.2.1.cell 3
                              have hc := C1.out.below (L12.out.below hW15.2.2.1).b
                              have c1 := hc.cell 1
                              have c2 := hc.cell 2
                              have HB15 := Lib.hid (below_add HJ.out hW15.2.2.2 HJ.out.size)
                              clear hW15 hc
                              obtain ⟨bc, hbc⟩ : ∃ b, wj.heap.size = b := ⟨_, rfl⟩
                              obtain ⟨bv, hbv⟩ : ∃ b, w14.heap.size = b := ⟨_, rfl⟩
                              rw [hbc] at k1 k2 k3 k4 k5 ⊢
                              rw [hbv] at j0 j1 j2 j3 ⊢
                              have hq := fun w => val_neq_self cc1 cn cf cs w
                              go_wp2
                              go_roundw
                              case rel => exact ⟨m + 1, hm, by go_num, HB15⟩
                              case measure => simp only [intOf]; omega
                            · have hgv : getV s2 ck = .tuple #[vv noAtt, .bool false] := getV_none (by simpa using hk)
                              rw [hgv] at HGT
                              clear hk hgv
                              go_upto_region 40 with (go_at_call 19; (with_reducible refine HGT.out.mono ?_); rintro e w14 ⟨rfl, bb⟩; have BG := Lib.hid bb; clear bb HGT)
                              refine with_worldT (fun W => Cb wj.heap.size 50 (cca ⟨ck, true, cc1, cn, cf, cs⟩) W ∧ Cb w14.heap.size 48 (vcells 0 0 0 ⟨#[]⟩) W ∧ Below W12.heap.size W12 W ∧ Below wj.heap.size wj W) (HCB.out _ BG.out _) fun W15 hW15 => ?_
                              have k1 := hW15.1.cell 1
                              have k2 := hW15.1.cell 2
                              have k3 := hW15.1.cell 3
                              have k4 := hW15.1.cell 4
                              have k5 := hW15.1.cell 5
                              have j0 := hW15.2.1.cell 0
                              have j1 := hW15.2.1.cell 1
                              have j2 := hW15.2.1.cell 2
                              have j3 := hW15.2.1.cell 3
                              have hc := C1.out.below (L12.out.below hW15.2.2.1).b
                              have c1 := hc.cell 1
                              have c2 := hc.cell 2
                              have HB15 := Lib.hid (below_add HJ.out hW15.2.2.2 HJ.out.size)
                              clear hW15 hc
                              obtain ⟨bc, hbc⟩ : ∃ b, wj.heap.size = b := ⟨_, rfl⟩
                              obtain ⟨bv, hbv⟩ : ∃ b, w14.heap.size = b := ⟨_, rfl⟩
                              rw [hbc] at k1 k2 k3 k4 k5 ⊢
                              rw [hbv] at j0 j1 j2 j3 ⊢
                              have hq := fun w => val_neq_self cc1 cn cf cs w
                              go_wp2
                              go_roundw
                              case rel => exact ⟨m + 1, hm, by go_num, HB15⟩
                              case measure => simp only [intOf]; omega
                          · obtain rfl : m = p.x.length := by omega
                            have HBJ := Lib.hid (below_add HB13.out HJ.out HB13.out.size)
                            have hll3 := HLL.out
                            go_wp2
                            go_roundw
                            case rel => exact ⟨n + 1, HLTN.out, by go_num, HBJ⟩
                            case measure => simp only [intOf]; have := HLTN.out; omega
                  · obtain rfl : n = l.length := by omega
                    have ZL := Lib.hid (L12.out.below HB.out)
                    go_wp2_with (go_at_call 8; refine (known13_any _).mono ?_; rintro e wk ⟨rfl, bb⟩; have ZK := Lib.hid (ZL.out.below bb); clear bb)
                    go_ret
                    exact ⟨rfl, below_add HB1.out ZK.out.b HB1.out.size⟩
              · go_wp2_with (first
                  | (go_at_call 14; (with_reducible refine L10.out.len.mono ?_); rintro e W11 ⟨rfl, bb⟩; have L11 := Lib.hid (L10.out.below bb); have hc := C1.out.below L11.out.b; have c1 := hc.cell 1; have c2 := hc.cell 2; have c4 := hc.cell 4; clear hc bb L10 O10)
                  | (go_at_call 13; (with_reducible refine (L11.out.pat (by decide) HSO.out HXR.out).mono ?_); rintro e W12 ⟨rfl, q, oo⟩; have L12 := Lib.hid q; clear q oo L11 c1 c2 c4)
                  | (go_at_call 8; refine (known13_any _).mono ?_; rintro e wk ⟨rfl, bb⟩; have ZK := Lib.hid (L12.out.below bb); clear bb))
                go_ret
                exact ⟨rfl, below_add HB1.out ZK.out.b HB1.out.size⟩
  · have HSM := Lib.hid (fun W v (h : Orow W v (p :: ls)) => small_any v _ W h)
    rw [decide_eq_false hs] at HSM
    clear hs
    go_wp2_with (first
      | (go_at_call 17; (with_reducible refine HN.out.mono ?_); rintro e w2 ⟨rb, rfl, q1, bb⟩; have L2 := Lib.hid (LI.mk q1 bb PB.nil); have hc := C1.out.below bb; have c0 := hc.cell 0; have c1 := hc.cell 1; have c2 := hc.cell 2; have c3 := hc.cell 3; have c4 := hc.cell 4; have HB2 := Lib.hid (below_add HB1.out bb HB1.out.size); have HR2 := Lib.hid (HROW.out.below (HB2.out.alloc HB2.out.size (.cells #[.int .i64 p.k, .int .i64 p.i, .int .i64 p.m, .slice la p.L.length lc, .slice xa p.x.length xc] 25)) (Nat.le_refl _)); have HO2 := Lib.hid (own_lit w2 25 [⟨p.k, p.i, p.m, la, p.L.length, lc, xa, p.x.length, xc⟩] [.int .i64 p.k, .int .i64 p.i, .int .i64 p.m, .slice la p.L.length lc, .slice xa p.x.length xc] rfl (by show 1 ≤ maxLen; unfold maxLen; omega)); clear hc q1 bb)
      | (at_builtin; refine wpList_noguard (by rfl) ?_; refine wpList_append_row (C := opC) rfl (.tmp 25) (.tmp 26) 27 rfl w2.heap.size 25 i0 _ 72 Try.underlying27 hi hz0 hz1 hz2 rfl (.slice (some ⟨w2.heap.size, 0, none⟩) 1 1) 1 [.int .i64 p.k, .int .i64 p.i, .int .i64 p.m, .slice la p.L.length lc, .slice xa p.x.length xc] rfl HO2.out _ ss rfl HR2.out h63 hby (by rw [World.size_alloc]; omega) ?_; intro v3 w3 hown3 hgrow3; have b3 := below_lit hgrow3 rfl; have L3 := Lib.hid (L2.out.below b3); have HO3 := Lib.hid (HJN.out w3 v3 (below_add HB2.out b3 HB2.out.size) (row_cons (os := [⟨p.k, p.i, p.m, la, p.L.length, lc, xa, p.x.length, xc⟩]) rfl hown3)); clear b3 hown3 hgrow3 L2 HB2 HR2 HO2 c0 c1 c2 c3 c4)
      | (go_at_call 7; (with_reducible refine (HSM.out w3 v3 HO3.out).mono ?_); rintro e w4 ⟨rfl, bb⟩; have L4 := Lib.hid (L3.out.below bb); clear bb L3 HO3)
      | (go_at_call 8; refine (known13_any _).mono ?_; rintro e w5 ⟨rfl, bb⟩; have L5 := Lib.hid (L4.out.below bb); clear bb))
    go_ret
    exact ⟨rfl, below_add HB1.out L5.out.b HB1.out.size⟩
end Go.Proofs.Yteodfbkfpboehaa
