
import Derived.Test.YtiobcifpebehnaaDoorI26
/- I27: InternOne's walk -/
namespace Go.Proofs.YtiobcifpebehnaaDoor
open Go.RowKit
set_option linter.unusedVariables false

@[reducible] def CI (b o i : Nat) (x : Nat) (w : World) : Prop := w.cell? ⟨b, o + i, none⟩ = some (.int .i64 (x : Nat))
/-- What the comparison reads: an id and a set at a place. -/
@[reducible] def C2 (ib io sb so j : Nat) (i : Nat) (a : Option Addr) (l c : Nat) (w : World) : Prop := w.cell? ⟨ib, io + j, none⟩ = some (.int .i64 (i : Nat)) ∧ w.cell? ⟨sb, so + j, none⟩ = some (.slice a l c)
@[reducible] def C4 (ib io sb so j k : Nat) (i i' : Nat) (a : Option Addr) (l c : Nat) (a' : Option Addr) (l' c' : Nat) (w : World) : Prop := w.cell? ⟨ib, io + j, none⟩ = some (.int .i64 (i : Nat)) ∧ w.cell? ⟨sb, so + j, none⟩ = some (.slice a l c) ∧ w.cell? ⟨ib, io + k, none⟩ = some (.int .i64 (i' : Nat)) ∧ w.cell? ⟨sb, so + k, none⟩ = some (.slice a' l' c')
/-- Where the law has come to. -/
structure OneS (w0 : World) (B tb : Nat) (ks : List Key) (iv sv : Value) (Q : List OQ) (S : Nat → Prop) (T : TabS) (n : Nat) (wr : World) : Prop where
  r : OneR w0 B tb iv sv (Q.map OQ.i) (Q.map OQ.s) S T n wr
  m : OneM ks (Q.map OQ.p) T
  q : ∀ q ∈ Q, Arow w0 q.s.v q.x
/-- The cells of one place. -/
theorem OneS.open {w0 : World} {B tb : Nat} {ks : List Key} {ia sa : Option Addr} {in_ ic sn sc : Nat} {Q : List OQ} {S : Nat → Prop} {T : TabS} {n : Nat} {wr : World} (h : OneS w0 B tb ks (.slice ia in_ ic) (.slice sa sn sc) Q S T n wr) (h0 : 0 < Q.length) :
    ∃ ib io sb so, ia = some ⟨ib, io, none⟩ ∧ sa = some ⟨sb, so, none⟩ ∧ Q.length ≤ ic ∧ Q.length ≤ sc ∧ ic ≤ maxLen ∧ sc ≤ maxLen ∧ ∀ j (hj : j < Q.length), ∃ a c, Q[j].s = ⟨a, Q[j].x.length, c⟩ ∧ Arow w0 (.slice a Q[j].x.length c) Q[j].x ∧ C2 ib io sb so j Q[j].i a Q[j].x.length c wr := by
  obtain ⟨ib, io, e1, e2, e3, e4⟩ := nat_at (Row.of_owns (C := natC) h.r.ids).1 (by simpa using h0)
  obtain ⟨sb, so, f1, f2, f3, f4⟩ := sv_at (Row.of_owns (C := svC) h.r.sets).1 (by simpa using h0)
  rw [List.length_map] at e2 f2
  refine ⟨ib, io, sb, so, e1, f1, e2, f2, e3, f3, fun j hj => ?_⟩
  have hr := h.q _ (List.getElem_mem hj)
  have c1 := e4 j (by simpa using hj)
  have c2 := f4 j (by simpa using hj)
  rw [List.getElem_map] at c1 c2
  obtain ⟨a, c, e⟩ := hr.shape
  have es : Q[j].s = ⟨a, Q[j].x.length, c⟩ := by
    have e' := e
    unfold SV.v at e'
    injection e' with g1 g2 g3
    cases hq : Q[j].s with
    | mk a' l' c' =>
      rw [hq] at g1 g2 g3
      simp only at g1 g2 g3
      rw [g1, g2, g3]
  rw [e] at hr c2
  exact ⟨a, c, es, hr, c1, c2⟩
/-- All that is known of one place. -/
structure AtQ (w0 : World) (ib io sb so j i : Nat) (x : List Att) (a : Option Addr) (c : Nat) (Q : List OQ) (T : TabS) (wr : World) : Prop where
  mem : (i, x) ∈ Q.map OQ.p
  get : (Q.map OQ.p)[j]? = some (i, x)
  live : T.live i
  set : T.set i = x
  row : Arow w0 (.slice a x.length c) x
  cells : C2 ib io sb so j i a x.length c wr
theorem OneS.at {w0 : World} {B tb : Nat} {ks : List Key} {ib io sb so : Nat} {in_ ic sn sc : Nat} {Q : List OQ} {S : Nat → Prop} {T : TabS} {n : Nat} {wr : World} (h : OneS w0 B tb ks (.slice (some ⟨ib, io, none⟩) in_ ic) (.slice (some ⟨sb, so, none⟩) sn sc) Q S T n wr) {j : Nat} (hj : j < Q.length) :
    ∃ i x a c, AtQ w0 ib io sb so j i x a c Q T wr := by
  obtain ⟨ib', io', sb', so', e1, e2, -, -, -, -, hat⟩ := h.open (by omega)
  cases e1
  cases e2
  obtain ⟨a, c, -, hrow, hC⟩ := hat j hj
  have hmem : Q[j].p ∈ Q.map OQ.p := List.mem_map_of_mem (List.getElem_mem hj)
  obtain ⟨hlv, hst⟩ := h.m.at_ _ hmem
  exact ⟨Q[j].i, Q[j].x, a, c, hmem, by rw [List.getElem?_map, List.getElem?_eq_getElem hj]; rfl, hlv, hst, hrow, hC⟩
theorem OneS.zero {w0 : World} {B tb : Nat} {ks : List Key} {iv sv : Value} {Q : List OQ} {S : Nat → Prop} {T : TabS} {n : Nat} {wr : World} (h : OneS w0 B tb ks iv sv Q S T n wr) {i : Nat} {x : List Att} (hm : (i, x) ∈ Q.map OQ.p) : ∃ b, ((i : Int) == 0) = b ∧ ((x.length : Int) == 0) = b := by
  have := one_zero h.r.t.ok h.m hm
  refine ⟨_, rfl, ?_⟩
  rw [Bool.eq_iff_iff, beq_iff_eq, beq_iff_eq]
  simp only at this
  omega
theorem OneS.pair {w0 : World} {B tb : Nat} {ks : List Key} {iv sv : Value} {Q : List OQ} {S : Nat → Prop} {T : TabS} {n : Nat} {wr : World} (h : OneS w0 B tb ks iv sv Q S T n wr) {i k : Nat} {x y : List Att} (hm : (i, x) ∈ Q.map OQ.p) (hk : (k, y) ∈ Q.map OQ.p) : ∃ b, ((i : Int) == (k : Int)) = b ∧ decide (x = y) = b := by
  have := one_ids h.r.t.ok h.m hm hk
  refine ⟨_, rfl, ?_⟩
  rw [Bool.eq_iff_iff, beq_iff_eq, decide_eq_true_iff, ← this]
  simp only
  omega
theorem C2.on {ib io sb so j i : Nat} {a : Option Addr} {l c : Nat} {w w' : World} (h : C2 ib io sb so j i a l c w) (hb : Below w.heap.size w w') : C2 ib io sb so j i a l c w' :=
  ⟨(hb.cell (World.block_lt_of_cell? _ _ h.1)).trans h.1, (hb.cell (World.block_lt_of_cell? _ _ h.2)).trans h.2⟩
theorem OneS.below {w0 : World} {B tb : Nat} {ks : List Key} {iv sv : Value} {Q : List OQ} {S : Nat → Prop} {T : TabS} {n : Nat} {wr w' : World} (h : OneS w0 B tb ks iv sv Q S T n wr) (hb : Below wr.heap.size wr w') : OneS w0 B tb ks iv sv Q S T n w' := ⟨h.r.below hb, h.m, h.q⟩

/-- Where the freeing has come to. -/
structure FreS (w0 : World) (B tb : Nat) (iv sv : Value) (Q : List OQ) (j : Nat) (S : Nat → Prop) (T : TabS) (n : Nat) (wr : World) : Prop where
  r : OneR w0 B tb iv sv (Q.map OQ.i) (Q.map OQ.s) S T n wr
  m : FreeM ((Q.map OQ.p).drop j) T
theorem FreS.at {w0 : World} {B tb : Nat} {ia : Option Addr} {in_ ic : Nat} {sv : Value} {Q : List OQ} {j : Nat} {S : Nat → Prop} {T : TabS} {n : Nat} {wr : World} (h : FreS w0 B tb (.slice ia in_ ic) sv Q j S T n wr) (hj : j < Q.length) :
    ∃ b o i, ia = some ⟨b, o, none⟩ ∧ Q.length ≤ ic ∧ ic ≤ maxLen ∧ wr.cell? ⟨b, o + j, none⟩ = some (.int .i64 (i : Nat)) ∧ T.live i ∧ FreeM ((Q.map OQ.p).drop (j + 1)) (T.less i) := by
  obtain ⟨b, o, e1, e2, e3, e4⟩ := nat_at (Row.of_owns (C := natC) h.r.ids).1 (by rw [List.length_map]; omega)
  rw [List.length_map] at e2
  have c1 := e4 j (by simpa using hj)
  rw [List.getElem_map] at c1
  have hd : (Q.map OQ.p).drop j = Q[j].p :: (Q.map OQ.p).drop (j + 1) := by
    rw [List.drop_eq_getElem_cons (by simpa using hj), List.getElem_map]
  have hm := h.m
  rw [hd] at hm
  exact ⟨b, o, _, e1, e2, e3, c1, free_live hm, free_step h.r.t.ok hm⟩
theorem FreS.done {w0 : World} {B tb : Nat} {iv sv : Value} {Q : List OQ} {S : Nat → Prop} {T : TabS} {n : Nat} {wr : World} (h : FreS w0 B tb iv sv Q Q.length S T n wr) : T.len = 1 ∧ heldI T 0 = 0 := by
  have hm := h.m
  rw [List.drop_eq_nil_of_le (by simp)] at hm
  exact free_done h.r.t.ok hm

set_option maxRecDepth 100000 in
set_option maxHeartbeats 4000000 in
theorem one_walk (v0 v1 : Value) (ks : List Key) (ls : List (List Att)) (w : World) (h0 : Krow w v0 ks) (hkW : ∀ k ∈ ks, KeyW k) (h2 : Nrow w v1 ls) (hls : ∀ l ∈ ls, ∀ a ∈ l, AttW a) (ht : Tab w.heap.size w) :
    Calls Tryd.prog 5 #[v0, v1] w fun e w' => e = .returned (.bool true) ∧ Below w.heap.size w w' := by
  have HN := Lib.hid (new_any v0 ks w h0 hkW)
  have HT := Lib.hid ht
  have HKN := Lib.hid (fun (w' : World) (hb : Below w.heap.size w w') => known7_any w' (fun w2 hb2 => ht w2 (hb.trans (hb2.mono hb.size))))
  have hl2 := h2.len
  obtain ⟨i0, hi, hz0, hz1, hz2⟩ := info_int7
  obtain ⟨i1, hj, hy0, hy1, hy2⟩ := info_slice7
  obtain ⟨va, vc, rfl⟩ := h0.shape
  obtain ⟨la, lc, rfl⟩ := h2.shape
  have H2 := Lib.hid h2
  have HLS := Lib.hid hls
  clear h0 h2 hls ht hkW
  by_cases hlen : ls.length ≤ 60
  · have g1 : decide (60 < (ls.length : Int)) = false := by rw [decide_eq_false_iff_not]; omega
    go_enter Tryd.func5, Tryd.ntmps5
    go_wp2_with (go_at_call 9; refine HN.out.mono ?_; rintro e w1 ⟨hb1, ⟨hmk, s, rfl, hs⟩ | ⟨hmk, rfl⟩⟩)
    · have HS := Lib.hid hs
      have B1 := Lib.hid hb1
      clear hs hb1 HN hmk
      go_wp2_with (go_at_call 12; refine (begin_any ks w w1 _ HS.out B1.out HT.out).mono ?_; rintro e w2 ⟨tb, rfl, hR2, hsz⟩; refine Hid.out ?_)
      generalize w1.heap.size = B at *
      have R2 := Lib.hid (show OneS w B tb ks (.slice none 0 0) (.slice none 0 0) [] (fun k => B ≤ k) (newT ks) 0 w2 from ⟨OneR.first hR2, one_new ks, by simp⟩)
      have HWB := Lib.hid hsz
      clear hR2 hsz HS
      refine Lib.hid ?_
      go_wp2
      go_loopw [8, 9, 38] (fun s8 s9 s38 wr => ∃ (k : Nat) (T : TabS) (S : Nat → Prop) (Q : List OQ), k ≤ ls.length ∧ Q.length ≤ k ∧ s38 = .int .i64 k ∧ OneS w B tb ks s8 s9 Q S T k wr) (fun _ _ s38 _ => ls.length - (intOf s38).toNat)
      case atStart => exact ⟨0, _, _, [], Nat.zero_le _, Nat.le_refl _, rfl, R2.out⟩
      case round =>
        obtain ⟨k, T, S, Q, hk, hQ, rfl, hR⟩ := hrel
        obtain ⟨⟨ia, ic, e8⟩, ⟨sa, sc, e9⟩⟩ := hR.r.shapes
        rw [List.length_map] at e8 e9
        subst e8 e9
        have HR := Lib.hid hR
        clear hR
        by_cases hlt : k < ls.length
        · obtain ⟨lb, lo, rfl, -, hcap, hmx, hlb, hat⟩ := H2.out.opn (by omega)
          obtain ⟨ya, yc, cy, hy⟩ := hat k hlt
          have cy2 := (HR.out.r.bel.cell (p := ⟨lb, lo + k, none⟩) hlb).trans cy
          have HY := Lib.hid hy
          have HYW := Lib.hid (HLS.out ls[k] (List.getElem_mem hlt))
          clear hat hy cy
          generalize ls[k] = Y at *
          by_cases hyl : Y.length ≤ 70
          · have g3 : decide (70 < (Y.length : Int)) = false := by rw [decide_eq_false_iff_not]; omega
            go_wp2_with (go_at_call 14; refine (HR.out.r.arg (by omega) HY.out HYW.out HWB.out).mono ?_; rintro e w4 (⟨hm, rfl, S4, hR4⟩ | ⟨hm, rfl, S4, hR4⟩); all_goals refine Hid.out ?_)
            · have hm' : ((may5 T.ks Y) == 0) = false := by simpa using hm
              have R5 := Lib.hid hR4
              generalize may5 T.ks Y = me at *
              clear hR4 hm
              refine Lib.hid ?_
              go_wp2
              go_roundw
              case rel => exact ⟨k + 1, T, S4, Q, by omega, by omega, by go_num, R5.out.le (by omega), HR.out.m, HR.out.q⟩
              case measure => simp [intOf]; omega
            · have hmm := one_add HR.out.r.t.ok HR.out.m Y
              generalize T.idOf Y = id at *
              have hbA := (Below.refl w4.heap.size w4).alloc (Nat.le_refl _) (.cells #[.int .i64 (id : Nat)] 3)
              have R5 := Lib.hid (hR4.below hbA)
              have HNW := Lib.hid (heap_alloc_new w4 (.cells #[.int .i64 (id : Nat)] 3))
              have HMM := Lib.hid hmm
              clear hbA hmm hR4
              refine Lib.hid ?_
              go_wp2_with (at_builtin; refine wpList_append_lies _ rfl (.tmp 53) (.tmp 55) 34 rfl 0 3 i0 (.int .i64 0) 1 8 Tryd.underlying34 hi hz0 hz1 hz2 rfl (by decide) (.slice ia Q.length ic) (Q.map OQ.i).length (fl natC (Q.map OQ.i)) rfl R5.out.ids ⟨w4.heap.size, 0, none⟩ 1 1 [.int .i64 (id : Nat)] rfl rfl (World.news_of_block HNW.out) (by simp [Value.oneCell']) (by decide) (by unfold maxLen; simp; omega) (by simp; omega) (Nat.zero_le _) _ rfl ?_; intro g6 cap6 w6 ho6 hg6 ha6 hl6; refine Hid.out ?_)
              have e6 : fl natC (Q.map OQ.i ++ [id]) = fl natC (Q.map OQ.i) ++ [.int .i64 (id : Nat)] := by rw [fl_app, fl_one]; rfl
              have l6 : (Q.map OQ.i ++ [id]).length = (Q.map OQ.i).length + 1 := by simp
              obtain ⟨S6, hR6⟩ := R5.out.pushI HWB.out (I' := Q.map OQ.i ++ [id]) hg6 (by rw [e6, l6]; exact ho6) (fun g hg => by cases hg; exact ha6.imp (fun h => h) (fun e => Nat.le_of_eq e.symm))
              have hbA := (Below.refl w6.heap.size w6).alloc (Nat.le_refl _) (.cells #[.slice ya Y.length yc] 37)
              have R7 := Lib.hid (hR6.below hbA)
              have HNX := Lib.hid (heap_alloc_new w6 (.cells #[.slice ya Y.length yc] 37))
              clear hbA hR6 e6 l6 ho6 hg6 ha6 hl6 R5 HNW
              refine Lib.hid ?_
              go_wp2_with (at_builtin; refine wpList_append_lies _ rfl (.tmp 57) (.tmp 59) 33 rfl 0 37 i1 (.slice none 0 0) 1 24 Tryd.underlying33 hj hy0 hy1 hy2 rfl (by decide) (.slice sa Q.length sc) (Q.map OQ.s).length (fl svC (Q.map OQ.s)) rfl R7.out.sets ⟨w6.heap.size, 0, none⟩ 1 1 [.slice ya Y.length yc] rfl rfl (World.news_of_block HNX.out) (by simp [Value.oneCell']) (by decide) (by unfold maxLen; simp; omega) (by simp; omega) (Nat.zero_le _) _ rfl ?_; intro g8 cap8 w8 ho8 hg8 ha8 hl8; refine Hid.out ?_)
              have e8 : fl svC (Q.map OQ.s ++ [(⟨ya, Y.length, yc⟩ : SV)]) = fl svC (Q.map OQ.s) ++ [.slice ya Y.length yc] := by rw [fl_app, fl_one]; rfl
              have l8 : (Q.map OQ.s ++ [(⟨ya, Y.length, yc⟩ : SV)]).length = (Q.map OQ.s).length + 1 := by simp
              obtain ⟨S8, hR8⟩ := R7.out.pushS HWB.out (V' := Q.map OQ.s ++ [(⟨ya, Y.length, yc⟩ : SV)]) hg8 (by rw [e8, l8]; exact ho8) (fun g hg => by cases hg; exact ha8.imp (fun h => h) (fun e => Nat.le_of_eq e.symm))
              simp only [List.length_map] at hR8
              have R9 := Lib.hid (show OneS w B tb ks (.slice (some ⟨g6, 0, none⟩) (Q.length + 1) cap6) (.slice (some ⟨g8, 0, none⟩) (Q.length + 1) cap8) (Q ++ [⟨id, ⟨ya, Y.length, yc⟩, Y⟩]) S8 (T.add Y) (k + 1) w8 from
                ⟨by rw [List.map_append, List.map_append]; exact hR8, by rw [List.map_append]; exact HMM.out, fun q hq => by
                  rcases List.mem_append.1 hq with hq | hq
                  · exact HR.out.q q hq
                  · obtain rfl := List.mem_singleton.1 hq
                    exact HY.out⟩)
              clear hR8 e8 l8 ho8 hg8 ha8 hl8 R7 HNX
              refine Lib.hid ?_
              go_wp2
              go_roundw
              case rel => exact ⟨k + 1, _, S8, _, by omega, by rw [List.length_append]; exact Nat.succ_le_succ hQ, by go_num, R9.out⟩
              case measure => simp [intOf]; omega
          · have g3 : decide (70 < (Y.length : Int)) = true := by rw [decide_eq_true_iff]; omega
            go_wp2
            go_roundw
            case rel => exact ⟨k + 1, T, S, Q, by omega, by omega, by go_num, HR.out.r.le (by omega), HR.out.m, HR.out.q⟩
            case measure => simp [intOf]; omega
        · obtain rfl : k = ls.length := by omega
          have HQ60 : Q.length ≤ 60 := by omega
          go_wp2
          go_loopw [64] (fun s64 w2 => ∃ j : Nat, j ≤ Q.length ∧ s64 = .int .i64 j ∧ OneS w B tb ks (.slice ia Q.length ic) (.slice sa Q.length sc) Q S T ls.length w2) (fun s64 _ => Q.length - (intOf s64).toNat)
          case atStart => exact ⟨0, Nat.zero_le _, rfl, HR.out⟩
          case round =>
            obtain ⟨j, hj, rfl, hR⟩ := hrel
            by_cases hltj : j < Q.length
            · obtain ⟨ib, io, sb, so, rfl, rfl, q1, q2, q3, q4, -⟩ := hR.open (by omega)
              obtain ⟨qi, qx, a, c, hA⟩ := hR.at hltj
              obtain ⟨b, e0, e1⟩ := hR.zero hA.mem
              have HST := Lib.hid (hR.r.told (by omega) hA.live hA.set)
              have HR := Lib.hid hR
              have HA := Lib.hid hA
              obtain ⟨c1, c2⟩ := hA.cells
              clear hA hR
              go_wp2_with (go_at_call 21; refine HST.out.mono ?_; rintro e w3 ⟨ua, uc, rfl, hrow, hb3⟩; refine Hid.out ?_)
              have R3 := Lib.hid (HR.out.below hb3)
              have hb4 : Below w3.heap.size w3 w3.drew := (Below.refl _ _).drew
              have hb34 := below_add hb3 hb4 hb3.size
              have d0 : C2 ib io sb so j qi a qx.length c w3.drew := HA.out.cells.on hb34
              have HSM := Lib.hid (rsame_any5 _ _ qx qx w3.drew (hrow.below hb4 (Nat.le_refl _)) (HA.out.row.below (below_add HR.out.r.bel hb34 HR.out.r.bel.size) (Nat.le_refl _)))
              have HD5 := Lib.hid (fun q => d0.on (below_drewN w3.drew q))
              have hdx : decide (qx = qx) = true := by simp
              rw [hdx] at HSM
              clear hdx hrow hb3 hb34 hb4 c1 c2
              have i1 : (0 : Int) ≤ (j : Int) := by omega
              have i2 : (j : Int) < (Q.length : Int) := by omega
              refine Lib.hid ?_
              go_wp2_with fail
              go_region_held3 (fun w' => C2 ib io sb so j qi a qx.length c w') (first | assumption | trivial)
                ((go_at_call 25; refine HSM.out.mono ?_; rintro e w5 ⟨rfl, q, rfl⟩; have hS1 := HD5.out q))
              have R5 := Lib.hid (R3.out.below (below_drewN w3 (1 + q)))
              clear e0 e1 HST HR HA d0 HSM HD5 R3 hS1
              go_wp2
              go_loopw [102] (fun s102 w6 => ∃ k : Nat, k ≤ j ∧ s102 = .int .i64 k ∧ OneS w B tb ks (.slice (some ⟨ib, io, none⟩) Q.length ic) (.slice (some ⟨sb, so, none⟩) Q.length sc) Q S T ls.length w6) (fun s102 _ => j - (intOf s102).toNat)
              case atStart => exact ⟨0, Nat.zero_le _, rfl, R5.out⟩
              case round =>
                obtain ⟨k, hk, rfl, hR⟩ := hrel
                by_cases hltk : k < j
                · obtain ⟨ri, rx, a1, c1, hA⟩ := hR.at hltj
                  obtain ⟨pi, px, a2, c2, hP⟩ := hR.at (show k < Q.length by omega)
                  obtain ⟨b, e0, e1⟩ := hR.pair hA.mem hP.mem
                  have hb4 : Below wr.heap.size wr wr.drew := (Below.refl _ _).drew
                  have d0 : C4 ib io sb so j k ri pi a1 rx.length c1 a2 px.length c2 wr.drew := ⟨(hA.cells.on hb4).1, (hA.cells.on hb4).2, (hP.cells.on hb4).1, (hP.cells.on hb4).2⟩
                  have hbl := below_add hR.r.bel hb4 hR.r.bel.size
                  have HSM := Lib.hid (rsame_any5 _ _ rx px wr.drew (hA.row.below hbl (Nat.le_refl _)) (hP.row.below hbl (Nat.le_refl _)))
                  rw [e1] at HSM
                  have HD5 := Lib.hid (fun q => (show C4 ib io sb so j k ri pi a1 rx.length c1 a2 px.length c2 (wr.drew.drewN q) from ⟨(C2.on ⟨d0.1, d0.2.1⟩ (below_drewN wr.drew q)).1, (C2.on ⟨d0.1, d0.2.1⟩ (below_drewN wr.drew q)).2, (C2.on ⟨d0.2.2.1, d0.2.2.2⟩ (below_drewN wr.drew q)).1, (C2.on ⟨d0.2.2.1, d0.2.2.2⟩ (below_drewN wr.drew q)).2⟩))
                  have HR := Lib.hid hR
                  have i3 : (0 : Int) ≤ (k : Int) := by omega
                  have i4 : (k : Int) < (Q.length : Int) := by omega
                  clear hA hP hbl hb4 e1 hR
                  go_wp2_with fail
                  go_region_held3 (fun w' => C4 ib io sb so j k ri pi a1 rx.length c1 a2 px.length c2 w') (first | assumption | trivial)
                    ((go_at_call 25; refine HSM.out.mono ?_; rintro e w5 ⟨rfl, q, rfl⟩; have hS1 := HD5.out q))
                  have R7 := Lib.hid (HR.out.below (below_drewN wr (1 + q)))
                  clear HR HSM HD5 hS1 d0 e0
                  go_wp2
                  go_roundw
                  case rel => exact ⟨k + 1, by omega, by go_num, R7.out⟩
                  case measure => simp [intOf]; omega
                · obtain rfl : k = j := by omega
                  have HR := Lib.hid hR
                  clear hR
                  go_wp2
                  go_roundw
                  case rel => exact ⟨k + 1, by omega, by go_num, HR.out⟩
                  case measure => simp [intOf]; omega
            · obtain rfl : j = Q.length := by omega
              have R8 := Lib.hid (show FreS w B tb (.slice ia Q.length ic) (.slice sa Q.length sc) Q 0 S T ls.length wr from ⟨hR.r, hR.m.toFree⟩)
              clear hR
              go_wp2
              go_loopw [128] (fun s128 w6 => ∃ (k n : Nat) (T : TabS) (S : Nat → Prop), k ≤ Q.length ∧ n ≤ 60 + k ∧ s128 = .int .i64 k ∧ FreS w B tb (.slice ia Q.length ic) (.slice sa Q.length sc) Q k S T n w6) (fun s128 _ => Q.length - (intOf s128).toNat)
              case atStart => exact ⟨0, ls.length, T, S, Nat.zero_le _, by omega, rfl, R8.out⟩
              case round =>
                obtain ⟨k, n, T, S, hk, hn, rfl, hR⟩ := hrel
                by_cases hltk : k < Q.length
                · obtain ⟨b, o, fi, rfl, q1, q2, c1, hlv, hfm⟩ := hR.at hltk
                  have HF := Lib.hid (hR.r.freed (by omega) hlv HWB.out)
                  have HM := Lib.hid hfm
                  clear hR hlv hfm
                  go_wp2_with (go_at_call 16; refine HF.out.mono ?_; rintro e w7 ⟨rfl, S7, hR7⟩; refine Hid.out ?_)
                  have R9 := Lib.hid (show FreS w B tb (.slice (some ⟨b, o, none⟩) Q.length ic) (.slice sa Q.length sc) Q (k + 1) S7 (T.less fi) (n + 1) w7 from ⟨hR7, HM.out⟩)
                  clear hR7 HF c1
                  refine Lib.hid ?_
                  go_wp2
                  go_roundw
                  case rel => exact ⟨k + 1, _, _, _, by omega, by omega, by go_num, R9.out⟩
                  case measure => simp [intOf]; omega
                · obtain rfl : k = Q.length := by omega
                  obtain ⟨f1, f2⟩ := hR.done
                  have HL := Lib.hid (lenB wr hR.r.t)
                  rw [f1] at HL
                  have HH := Lib.hid (heldB 0 wr hR.r.t (by omega))
                  rw [f2] at HH
                  have HK := Lib.hid (known7_any wr (hR.r.tab.mono hR.r.t.hB))
                  have HR := Lib.hid hR
                  clear hR f1 f2
                  go_wp2_with (first
                    | (go_at_call 24; refine HL.out.mono ?_; rintro e w7 ⟨rfl, hw⟩; subst hw)
                    | (go_at_call 23; refine HH.out.mono ?_; rintro e w8 ⟨rfl, hw⟩; subst hw)
                    | (go_at_call 11; refine HK.out.mono ?_; rintro e w9 ⟨rfl, hb9⟩))
                  go_ret
                  exact ⟨rfl, below_add HR.out.r.bel hb9 HR.out.r.bel.size⟩
    · go_wp2_with (go_at_call 11; refine (HKN.out w1 hb1).mono ?_; rintro e w9 ⟨rfl, hb9⟩)
      go_ret
      exact ⟨rfl, below_add hb1 hb9 hb1.size⟩
  · have g1 : decide (60 < (ls.length : Int)) = true := by rw [decide_eq_true_iff]; omega
    go_enter Tryd.func5, Tryd.ntmps5
    go_wp2_with (go_at_call 9; refine HN.out.mono ?_; rintro e w1 ⟨hb1, ⟨hmk, s, rfl, hs⟩ | ⟨hmk, rfl⟩⟩; all_goals refine Hid.out ?_)
    · clear hs
      refine Lib.hid ?_
      go_wp2_with (go_at_call 11; refine (HKN.out w1 hb1).mono ?_; rintro e w9 ⟨rfl, hb9⟩)
      go_ret
      exact ⟨rfl, below_add hb1 hb9 hb1.size⟩
    · refine Lib.hid ?_
      go_wp2_with (go_at_call 11; refine (HKN.out w1 hb1).mono ?_; rintro e w9 ⟨rfl, hb9⟩)
      go_ret
      exact ⟨rfl, below_add hb1 hb9 hb1.size⟩
end Go.Proofs.YtiobcifpebehnaaDoor
