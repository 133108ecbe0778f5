
import Derived.Test.YteodfbkfpboehaaEG
import Derived.Laws.OwnMore
/- EH: the runs of a row of sets -/
namespace Go.Proofs.Yteodfbkfpboehaa
open Go.RowKit Go.Shelf
set_option linter.unusedVariables false
set_option maxRecDepth 100000

/-- A slice of runs that the call made, sets and all, in blocks from B on. -/
structure Zown (B : Nat) (w : World) (v : Value) (zs : List Ck) : Prop where
  row : w.ownsRow B 61 2 v zs.length (Go.Proofs.Yteodfbkfpboehaa.fl CkC zs)
  sets : ∀ z ∈ zs, w.ownsRow B 77 5 z.d.v z.d.s.length (Go.Proofs.Yteodfbkfpboehaa.fl attC z.d.s)
section
variable {B B' : Nat} {w w' : World} {v : Value} {zs : List Ck}
theorem Zown.below (h : Zown B w v zs) (hb : Below w.heap.size w w') : Zown B w' v zs := ⟨owns_below h.row hb, fun z hz => owns_below (h.sets z hz) hb⟩
theorem Zown.mono (h : Zown B w v zs) (hB : B' ≤ B) : Zown B' w v zs := ⟨owns_mono h.row hB, fun z hz => owns_mono (h.sets z hz) hB⟩
theorem Zown.nil (B : Nat) (w : World) : Zown B w (.slice none 0 0) [] := ⟨World.ownsRow_nil _ _ _ _, by simp⟩
theorem Zown.reads (h : Zown B w v zs) : Row CkC w v zs ∧ ∀ z ∈ zs, Arow w z.d.v z.d.s := ⟨(Row.of_owns (C := CkC) h.row).1, fun z hz => (Row.of_owns (C := attC) (h.sets z hz)).1⟩
theorem sets_kept {row : Value} {n : Nat} {xs : List Value} (hr : w.ownsRow B' 61 2 row n xs) (ho : Off (fun k => row.ownBlock = some k) w w') {u : Value} {m : Nat} {ys : List Value} (h : w.ownsRow B 77 5 u m ys) : w'.ownsRow B 77 5 u m ys :=
  owns_kept h fun g hg => ho.block g (own_lt7 h hg) fun hS => by
    obtain ⟨c1, h1⟩ := own_tag h hg
    obtain ⟨c2, h2⟩ := own_tag hr hS
    rw [h1] at h2
    injection h2 with h2
    injection h2 with _ h2 _
    exact absurd h2 (by decide)
/-- A run's row and its set lie apart. -/
theorem Zown.apart (h : Zown B w v zs) (k : Nat) (hk : v.ownBlock = some k) : ¬ NewB zs k := by
  rintro ⟨z, hz, hs⟩
  obtain ⟨c1, h1⟩ := own_tag h.row hk
  obtain ⟨c2, h2⟩ := own_tag (h.sets z hz) hs
  rw [h1] at h2
  injection h2 with h2
  injection h2 with _ h2 _
  exact absurd h2 (by decide)
theorem Zown.more {v' : Value} (h : Zown B w v zs) (hg : w.grownBy w' v.ownBlock) (z : Ck) (hz : w.ownsRow B 77 5 z.d.v z.d.s.length (Go.Proofs.Yteodfbkfpboehaa.fl attC z.d.s))
    (ho : w'.ownsRow B 61 2 v' (zs.length + 1) (Go.Proofs.Yteodfbkfpboehaa.fl CkC zs ++ CkC.c z)) : Zown B w' v' (zs ++ [z]) := by
  refine ⟨?_, fun y hy => ?_⟩
  · rw [List.length_append, fl_app, fl_one]; exact ho
  · have hO : Off (fun k => v.ownBlock = some k) w w' := Off.of_grown hg (fun g hg => hg)
    rcases List.mem_append.1 hy with hy | hy
    · exact sets_kept h.row hO (h.sets y hy)
    · obtain rfl := List.mem_singleton.1 hy
      exact sets_kept h.row hO hz
theorem Zown.set {l0 : List Ck} {y : Ck} {g cap : Nat} (h : Zown B w (.slice (some ⟨g, 0, none⟩) (l0.length + 1) cap) (l0 ++ [y])) (m : Nat) :
    Zown B (w.setCell ⟨g, l0.length * 2, none⟩ (.int .i64 m)) (.slice (some ⟨g, 0, none⟩) (l0.length + 1) cap) (l0 ++ [⟨m, y.d⟩]) := by
  have hO : Off (fun k => (Value.slice (some ⟨g, 0, none⟩) (l0.length + 1) cap).ownBlock = some k) w (w.setCell ⟨g, l0.length * 2, none⟩ (.int .i64 m)) := Off.of_grown (grown_set _) (fun k hk => by cases hk; rfl)
  have hr := h.row
  have e1 : (l0 ++ [y]).length = l0.length + 1 := by simp
  rw [e1] at hr
  refine ⟨?_, fun z hz => ?_⟩
  · have := owns_set hr (j := l0.length * 2) (.int .i64 m)
    have e2 : (Go.Proofs.Yteodfbkfpboehaa.fl CkC (l0 ++ [y])).set (l0.length * 2) (.int .i64 m) = Go.Proofs.Yteodfbkfpboehaa.fl CkC (l0 ++ [⟨m, y.d⟩]) := by
      rw [fl_app, fl_app, fl_one, fl_one, List.set_append_right _ _ (by rw [fl_len]; exact Nat.le_refl _), fl_len]
      rw [show l0.length * 2 - l0.length * CkC.m = 0 from Nat.sub_self _]
      rfl
    rw [e2] at this
    have e3 : (l0 ++ [(⟨m, y.d⟩ : Ck)]).length = l0.length + 1 := by simp
    rw [e3]; exact this
  · rcases List.mem_append.1 hz with hz | hz
    · exact sets_kept hr hO (h.sets z (List.mem_append_left _ hz))
    · obtain rfl := List.mem_singleton.1 hz
      exact sets_kept hr hO (h.sets y (List.mem_append_right _ (List.mem_singleton.2 rfl)))
theorem Zown.at {a : Option Addr} {n c : Nat} (h : Zown B w (.slice a n c) zs) (h0 : 0 < zs.length) : n = zs.length ∧ ∃ g, a = some ⟨g, 0, none⟩ ∧ g < w.heap.size := by
  rcases h.row.2 with ⟨hn, h1⟩ | ⟨g, cap, cur, hv, hB, hg, -⟩
  · omega
  · injection hv with e1 e2 e3
    exact ⟨e2, g, e1, lt_of_heap hg⟩
theorem Zown.lastCells {l0 : List Ck} {y : Ck} {g n cap : Nat} (h : Zown B w (.slice (some ⟨g, 0, none⟩) n cap) (l0 ++ [y])) : w.cell? ⟨g, l0.length * 2, none⟩ = some (.int .i64 (y.n : Nat)) ∧ w.cell? ⟨g, l0.length * 2 + 1, none⟩ = some y.d.v ∧ w.frozen? ⟨g, l0.length * 2, none⟩ = false := by
  obtain ⟨b, off, ha, -, -, -, -, hat, -⟩ := Row.opened h.reads.1 (by simp)
  injection ha with ha
  injection ha with e1 e2
  subst e1 e2
  have h0 := hat l0.length (by simp) 0 (.int .i64 (y.n : Nat)) (by simp [CkC])
  have h1 := hat l0.length (by simp) 1 y.d.v (by simp [CkC])
  obtain ⟨c2, h2⟩ := own_tag h.row (g := g) rfl
  refine ⟨by simpa [CkC] using h0, by simpa [CkC] using h1, ?_⟩
  simp [World.frozen?, h2]
end
theorem info_run : ∃ i, Try.prog.info? 61 = some i ∧ i.zero = some K_X.z ∧ i.size = 2 ∧ i.bytes = 32 := ⟨_, rfl, rfl, rfl, rfl⟩
theorem flat_one_more (l0 : List Ck) (y : Ck) : flat (l0 ++ [⟨y.n + 1, y.d⟩]) = flat (l0 ++ [y]) ++ [y.d.s] := by
  simp only [flat_app, flat_cons, flat_nil, List.append_nil, List.append_assoc]
  rw [List.replicate_succ']
theorem flat_new (zs : List Ck) (d : Sv) : flat (zs ++ [⟨1, d⟩]) = flat zs ++ [d.s] := by
  simp only [flat_app, flat_cons, flat_nil, List.append_nil]; rfl
/-- What runsOf has behind so many sets. -/
structure RunR (w : World) (ls : List (List Att)) (k : Nat) (v : Value) (zs : List Ck) (W : World) : Prop where
  own : Zown w.heap.size W v zs
  fl : flat zs = ls.take k
  pos : ∀ z ∈ zs, 0 < z.n
  len : zs.length ≤ k
  ln : lnS zs = k
  no : zs = [] → v = .slice none 0 0
  bel : Below w.heap.size w W
section
variable {w wr w5 w6 : World} {ls : List (List Att)} {k : Nat} {v : Value} {zs : List Ck}
theorem RunR.next (h : RunR w ls k v zs wr) {s : List Att} (hk : ls.take (k + 1) = ls.take k ++ [s]) (hb : Below wr.heap.size wr w5) (ua : Option Addr) (uc : Nat) (ho : Own5 wr w5 (.slice ua s.length uc) s) (u : Value)
    (ho6 : w6.ownsRow w.heap.size 61 2 u (zs.length + 1) (Go.Proofs.Yteodfbkfpboehaa.fl CkC zs ++ Ck.c ⟨1, ⟨ua, s.length, uc, s⟩⟩)) (hg : (w5.alloc (.cells (Ck.c ⟨1, ⟨ua, s.length, uc, s⟩⟩).toArray 61)).grownBy w6 v.ownBlock) :
    RunR w ls (k + 1) u (zs ++ [⟨1, ⟨ua, s.length, uc, s⟩⟩]) w6 := by
  have hb2 := hb.alloc hb.size (.cells (Ck.c ⟨1, ⟨ua, s.length, uc, s⟩⟩).toArray 61)
  have hbw := below_add h.bel hb2 h.bel.size
  refine ⟨Zown.more (h.own.below hb2) hg _ (owns_mono (owns_below ho (below_alloc1 w5 _)) h.bel.size) ho6, ?_, fun z hz => ?_, ?_, ?_, fun e => by simp at e, hbw.grown hg (Nat.le_trans h.bel.size hb2.size) (fun j hj => own_base h.own.row hj)⟩
  · rw [flat_new, h.fl, hk]
  · rcases List.mem_append.1 hz with hz | hz
    · exact h.pos z hz
    · obtain rfl := List.mem_singleton.1 hz
      exact Nat.one_pos
  · rw [List.length_append]; have := h.len; simp only [List.length_singleton]; omega
  · rw [lnS_app, h.ln]; rfl
theorem RunR.bump {l0 : List Ck} {y : Ck} {g cap : Nat} (h : RunR w ls k (.slice (some ⟨g, 0, none⟩) (l0.length + 1) cap) (l0 ++ [y]) wr) (hk : ls.take (k + 1) = ls.take k ++ [y.d.s]) (hb : Below wr.heap.size wr w5) :
    RunR w ls (k + 1) (.slice (some ⟨g, 0, none⟩) (l0.length + 1) cap) (l0 ++ [⟨y.n + 1, y.d⟩]) (w5.setCell ⟨g, l0.length * 2, none⟩ (.int .i64 ((y.n + 1 : Nat) : Int))) := by
  have ho := h.own.below hb
  have hbw := below_add h.bel hb h.bel.size
  refine ⟨ho.set (y.n + 1), ?_, fun z hz => ?_, ?_, ?_, fun e => by simp at e, hbw.grown (grown_set _) (Nat.le_trans h.bel.size hb.size) (fun j hj => by cases hj; exact own_base h.own.row rfl)⟩
  · rw [flat_one_more, h.fl, hk]
  · rcases List.mem_append.1 hz with hz | hz
    · exact h.pos z (List.mem_append_left _ hz)
    · obtain rfl := List.mem_singleton.1 hz
      exact Nat.succ_pos _
  · have := h.len; simp only [List.length_append, List.length_singleton] at this ⊢; omega
  · have := h.ln
    rw [lnS_app] at this ⊢
    have e1 : lnS [y] = y.n := by simp [lnS]
    have e2 : lnS [(⟨y.n + 1, y.d⟩ : Ck)] = y.n + 1 := by simp [lnS]
    omega
end
set_option maxHeartbeats 4000000 in
theorem runsOf_any (v : Value) (ls : List (List Att)) (w : World) (hv : Nrow w v ls) (hs : ∀ s ∈ ls, s.length ≤ 100000) (hl : ls.length ≤ 100000) :
    Calls Try.prog 31 #[v] w fun e w' => ∃ u zs, e = .returned u ∧ Zown w.heap.size w' u zs ∧ flat zs = ls ∧ (∀ z ∈ zs, 0 < z.n) ∧ zs.length ≤ ls.length ∧ Below w.heap.size w w' := by
  obtain ⟨ie, hie, hz, hsz, hby⟩ := info_run
  obtain ⟨a, cap, rfl⟩ := hv.shape
  have HL := Lib.hid hl
  have hl0 := hl
  have HV := Lib.hid hv
  have HS := Lib.hid hs
  clear hv hs hl
  go_enter Try.func31, Try.ntmps31
  go_wp2
  go_loopw [3, 9] (fun s3 s9 wr => ∃ (k : Nat) (zs : List Ck), k ≤ ls.length ∧ s9 = .int .i64 k ∧ Hid (RunR w ls k s3 zs wr)) (fun _ s9 _ => ls.length - (intOf s9).toNat)
  case atStart => exact ⟨0, [], Nat.zero_le _, rfl, Lib.hid ⟨Zown.nil _ _, rfl, by simp, Nat.le_refl _, rfl, fun _ => rfl, Below.refl _ _⟩⟩
  case round =>
    obtain ⟨k, zs, hk, rfl, HR⟩ := hrel
    rename_i wr
    by_cases hlt : k < ls.length
    · obtain ⟨b, off, ha, -, -, -, hbl, hat⟩ := Nrow.opn HV.out (by omega)
      subst ha
      obtain ⟨xa, xc, hc, hA⟩ := hat k hlt
      have c0 : wr.cell? ⟨b, off + k, none⟩ = some (.slice xa ls[k].length xc) := (HR.out.bel.cell hbl).trans hc
      have HA := Lib.hid (hA.below HR.out.bel (Nat.le_refl _))
      have HLK := Lib.hid (HS.out _ (List.getElem_mem hlt))
      have HTK := Lib.hid (List.take_succ_eq_append_getElem hlt)
      obtain ⟨s, hs⟩ : ∃ s, ls[k] = s := ⟨_, rfl⟩
      rw [hs] at c0 HA HLK HTK
      obtain ⟨xl, hxl⟩ : ∃ n, s.length = n := ⟨_, rfl⟩
      rw [hxl] at c0 HA
      clear hs hxl hat hc hA
      have HCP := Lib.hid (fun W (hb : Below wr.heap.size wr W) => copy_any5 (.slice xa xl xc) s W (HA.out.below hb (Nat.le_refl _)) HLK.out)
      have HBW := Lib.hid HR.out.bel
      have HB9 := Lib.hid (Below.refl wr.heap.size wr)
      have ZZ := Lib.hid HR.out.own
      have hzk := HR.out.len
      rcases List.eq_nil_or_concat zs with hzs | ⟨l0, y, hzs⟩
      · subst hzs
        have hu3 := HR.out.no rfl
        subst hu3
        go_wp2_with (first
          | (go_at_call 26; refine (HCP.out _ HB9.out).mono ?_; rintro e w5 ⟨u, rfl, ho, bb⟩; obtain ⟨ua, uc, rfl, -, -⟩ := own_shape ho; have HO := Lib.hid ho; have B5 := Lib.hid bb; have HBS := Lib.hid (built_one 61 ie hie K_X.z hz 2 hsz (by decide) (by decide) (Ck.c ⟨1, ⟨ua, s.length, uc, s⟩⟩) rfl); have S6 := Lib.hid (ZZ.out.below (bb.alloc bb.size (.cells (Ck.c ⟨1, ⟨ua, s.length, uc, s⟩⟩).toArray 61))); have HNB := Lib.hid (heap_alloc_new w5 (.cells (Ck.c ⟨1, ⟨ua, s.length, uc, s⟩⟩).toArray 61)); have HB0 := Lib.hid (show w.heap.size ≤ (w5.alloc (.cells (Ck.c ⟨1, ⟨ua, s.length, uc, s⟩⟩).toArray 61)).heap.size by rw [World.size_alloc]; have := HBW.out.size; have := bb.size; omega); clear ho bb)
          | (refine wpList_buildSliceL rfl 70 61 1 _ rfl w5.heap.size rfl _ rfl Try.underlying70 [(0, .agg (Ck.c ⟨1, ⟨ua, s.length, uc, s⟩⟩).toArray)] rfl _ HBS.out ?_)
          | (at_builtin; refine wpList_append_lies _ rfl (.tmp 35) (.tmp 39) 70 rfl w.heap.size 61 ie K_X.z 2 32 Try.underlying70 hie hz hsz hby rfl (by decide) (.slice none 0 0) 0 (Go.Proofs.Yteodfbkfpboehaa.fl CkC []) rfl S6.out.row ⟨w5.heap.size, 0, none⟩ 1 1 (Ck.c ⟨1, ⟨ua, s.length, uc, s⟩⟩) rfl rfl (World.news_of_block HNB.out) (ck_one _) (by decide) (by unfold maxLen; omega) (by omega) HB0.out _ rfl ?_; intro g6 cap6 w6 ho6 hg6 ha6 hl6; have HO6 := Lib.hid ho6; have HG6 := Lib.hid hg6; clear ho6 hg6 ha6 hl6))
        go_roundw
        case rel =>
          exact ⟨k + 1, _, hlt, by simp, Lib.hid (HR.out.next HTK.out B5.out ua uc HO.out _ HO6.out HG6.out)⟩
        case measure => simp only [intOf]; omega
      · have hzs : zs = l0 ++ [y] := by rw [hzs, List.concat_eq_append]
        subst hzs
        obtain ⟨a3, cap3, hu3, -, -⟩ := own_shape HR.out.own.row
        have hz3 := HR.out.own
        rw [hu3] at hz3
        obtain ⟨-, g, ha3, hg3⟩ := hz3.at (by simp)
        subst hu3 ha3
        clear hz3
        have HLN := Lib.hid (show (l0 ++ [y]).length = l0.length + 1 by simp)
        obtain ⟨q0, q1, q2⟩ := HR.out.own.lastCells
        have HSM := Lib.hid (fun W (hb : Below wr.heap.size wr W) => same_any5 y.d.v (.slice xa xl xc) y.d.s s W ((HR.out.own.reads.2 y (by simp)).below hb (Nat.le_refl _)) (HA.out.below hb (Nat.le_refl _)))
        have hyn : y.n ≤ 100000 := by have := HR.out.ln; rw [lnS_app] at this; have e1 : lnS [y] = y.n := by simp [lnS]
                                      omega
        rw [HLN.out] at hzk HR ZZ ⊢
        have HQ0 := Lib.hid q0
        have HQ2 := Lib.hid q2
        obtain ⟨m, hm⟩ : ∃ m, l0.length = m := ⟨_, rfl⟩
        have HM := Lib.hid hm
        rw [hm] at HLN q0 q1 q2 hzk HR ZZ HQ0 HQ2 ⊢
        clear hm
        have i1 : (m : Int) ≤ 100000 := by omega
        have i0' : (0 : Int) ≤ (m : Int) := by omega
        have e1 : (((m + 1 : Nat) : Int)) = (m : Int) + 1 := by omega
        have e2 : IntKind.i64.wrap (m : Int) = (m : Int) := by rw [IntKind.wrap_i64]; omega
        have hi1 : (m : Int) < (m : Int) + 1 := by omega
        have hge : decide ((0 : Int) ≤ (m : Int)) = true := decide_eq_true i0'
        by_cases hsame : y.d.s = s
        · rw [decide_eq_true hsame] at HSM
          have HYS := Lib.hid hsame
          clear hsame q0 q2
          obtain ⟨yn, hyn2⟩ : ∃ n, y.n = n := ⟨_, rfl⟩
          have HYN := Lib.hid hyn2
          rw [hyn2] at HQ0 hyn
          clear hyn2
          have u1 : (yn : Int) ≤ 100000 := by omega
          have u2 : (0 : Int) ≤ (yn : Int) := by omega
          go_wp2_with (go_at_call 47; refine (HSM.out _ HB9.out).mono ?_; rintro e w4 ⟨rfl, bb⟩; have B4 := Lib.hid bb; have c4 : w4.cell? ⟨g, m * 2, none⟩ = some (.int .i64 (yn : Nat)) := (bb.cell (World.block_lt_of_cell? _ _ HQ0.out)).trans HQ0.out; have f4 : w4.frozen? ⟨g, m * 2, none⟩ = false := by { obtain ⟨cc, hcc⟩ := own_tag (ZZ.out.below bb).row (g := g) rfl; simp [World.frozen?, hcc] }; clear bb)
          go_roundw
          case rel =>
            refine ⟨k + 1, l0 ++ [⟨y.n + 1, y.d⟩], hlt, by simp, Lib.hid ?_⟩
            have h7 := RunR.bump (l0 := l0) (y := y) (g := g) (cap := cap3) (w5 := w4) (by rw [HM.out]; exact HR.out) (by rw [HYS.out]; exact HTK.out) B4.out
            rw [HM.out, HYN.out] at h7
            rw [HYN.out]
            exact h7
          case measure => simp only [intOf]; omega
        · rw [decide_eq_false hsame] at HSM
          clear hsame
          go_wp2_with (first
            | (go_at_call 47; refine (HSM.out _ HB9.out).mono ?_; rintro e w4 ⟨rfl, bb⟩; have B4 := Lib.hid bb; clear bb)
            | (go_at_call 26; refine (HCP.out _ B4.out).mono ?_; rintro e w5 ⟨u, rfl, ho, bb⟩; obtain ⟨ua, uc, rfl, -, -⟩ := own_shape ho; have bb4 := below_add B4.out bb B4.out.size; have HO := Lib.hid (show Own5 wr w5 (.slice ua s.length uc) s from owns_mono ho B4.out.size); have B5 := Lib.hid bb4; have HBS := Lib.hid (built_one 61 ie hie K_X.z hz 2 hsz (by decide) (by decide) (Ck.c ⟨1, ⟨ua, s.length, uc, s⟩⟩) rfl); have S6 := Lib.hid (ZZ.out.below (bb4.alloc bb4.size (.cells (Ck.c ⟨1, ⟨ua, s.length, uc, s⟩⟩).toArray 61))); have HNB := Lib.hid (heap_alloc_new w5 (.cells (Ck.c ⟨1, ⟨ua, s.length, uc, s⟩⟩).toArray 61)); have HB0 := Lib.hid (show w.heap.size ≤ (w5.alloc (.cells (Ck.c ⟨1, ⟨ua, s.length, uc, s⟩⟩).toArray 61)).heap.size by rw [World.size_alloc]; have := HBW.out.size; have := bb4.size; omega); clear ho bb bb4)
            | (refine wpList_buildSliceL rfl 70 61 1 _ rfl w5.heap.size rfl _ rfl Try.underlying70 [(0, .agg (Ck.c ⟨1, ⟨ua, s.length, uc, s⟩⟩).toArray)] rfl _ HBS.out ?_)
            | (at_builtin; refine wpList_append_lies _ rfl (.tmp 35) (.tmp 39) 70 rfl w.heap.size 61 ie K_X.z 2 32 Try.underlying70 hie hz hsz hby rfl (by decide) (.slice (some ⟨g, 0, none⟩) (m + 1) cap3) (m + 1) (Go.Proofs.Yteodfbkfpboehaa.fl CkC (l0 ++ [y])) rfl (by have := S6.out.row; rw [HLN.out] at this; exact this) ⟨w5.heap.size, 0, none⟩ 1 1 (Ck.c ⟨1, ⟨ua, s.length, uc, s⟩⟩) rfl rfl (World.news_of_block HNB.out) (ck_one _) (by decide) (by unfold maxLen; omega) (by omega) HB0.out _ rfl ?_; intro g6 cap6 w6 ho6 hg6 ha6 hl6; have HO6 := Lib.hid ho6; have HG6 := Lib.hid hg6; clear ho6 hg6 ha6 hl6))
          go_roundw
          case rel => exact ⟨k + 1, _, hlt, by simp, Lib.hid (HR.out.next HTK.out B5.out ua uc HO.out _ (by rw [HLN.out]; exact HO6.out) HG6.out)⟩
          case measure => simp only [intOf]; omega
    · obtain rfl : k = ls.length := by omega
      obtain ⟨v3, hv3⟩ : ∃ v3 : Value, u3 = v3 := ⟨_, rfl⟩
      go_wp2
      go_ret
      refine ⟨_, zs, rfl, HR.out.own, ?_, HR.out.pos, HR.out.len, HR.out.bel⟩
      rw [HR.out.fl, List.take_of_length_le (Nat.le_refl _)]
end Go.Proofs.Yteodfbkfpboehaa
