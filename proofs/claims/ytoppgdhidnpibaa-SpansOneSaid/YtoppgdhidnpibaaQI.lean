
import Derived.Test.YtoppgdhidnpibaaQH
/- QI: SpansOne -/
namespace Go
/-! a region that draws its order, within a round as outside of one -/
section
variable {l n : Nat} {P : Program} {ops : Array Oper} {Q : Exit → Act → World → Prop} {md : Region.Mode}
theorem wpOpIn_of_plain {i : Nat} {K : Act → World → Prop} {a : Act} {w : World} (hq : ∀ a w, ¬ Q .outgrown a w) (hd : ∀ (j : Nat) (o : Oper) c, ops[j]? = some o → o.op ≠ .defer c) (h : wpOp P ops Q i K a w) : wpOpIn (Fence.wide.inRound l) n P ops Q i K a w := by
  unfold wpOp at h
  unfold wpOpIn
  cases ho : ops[i]? with
  | none => rw [ho] at h; exact h
  | some o =>
    rw [ho] at h
    dsimp only at h ⊢
    split
    · rename_i hw
      rw [if_pos hw] at h
      rcases h with h | ⟨-, a', w', h⟩
      · exact opIn_of_plain (fun c => hd i o c ho) h
      · exact (hq a' w' h).elim
    · rename_i hw
      rw [if_neg hw] at h
      exact ⟨fun _ _ => trivial, h⟩
theorem wpAnyIn_of_plain (hq : ∀ a w, ¬ Q .outgrown a w) (hd : ∀ (j : Nat) (o : Oper) c, ops[j]? = some o → o.op ≠ .defer c) : ∀ (fuel : Nat) (listed : Array Bool) (a : Act) (w : World), wpAny P md ops Q fuel listed a w → wpAnyIn (Fence.wide.inRound l) n P md ops Q fuel listed a w
  | 0, _, _, _, h => h
  | fuel + 1, _, _, _, h => ⟨h.1, fun i hi => wpOpIn_mono (fun a w h => wpAnyIn_of_plain hq hd fuel _ a w h) (wpOpIn_of_plain hq hd (h.2 i hi))⟩
theorem drawnHIn_of_plain {id : Nat} {L : List Oper} {S : World → Prop} {a : Act} {w : World} (hm : P.follows .mixedOrders = true) (hq : ∀ a w, ¬ Q .outgrown a w) (hd : noDefer L = true)
    (h : wpAnyH P .any L.toArray Q S L.toArray.size (Array.replicate L.toArray.size false) a w.drew) : (Code.region id L.toArray true).wpIn (Fence.wide.inRound l) n P Q a w := by
  refine wpIn_region_any hm (wpAnyIn_of_plain hq (fun j o c ho hc => ?_) _ _ _ _ (wpAny_of_held _ _ _ _ h))
  have hm : o ∈ L := by
    have := Array.mem_of_getElem? ho
    simpa using this
  have := (List.all_eq_true.1 hd) o hm
  rw [hc] at this
  cases this
end
end Go
namespace Go.Proofs.Ytoppgdhidnpibaa
open Go.RowKit Go.Shelf
set_option linter.unusedVariables false
set_option maxRecDepth 100000
theorem wp_store1 {op : Oper} {a : Act} {w : World} {K : Act → World → Prop} {Q : Exit → Act → World → Prop} (x y : Operand) (ho : op.op = .store 3 x y) (g : Nat) (v u : Int) (hx : a.eval x = .pointer (some ⟨g, 0, none⟩)) (hy : a.eval y = .int .i64 v)
    (hc : w.cell? ⟨g, 0, none⟩ = some (.int .i64 u)) (hf : w.frozen? ⟨g, 0, none⟩ = false) (h : K (a.put op.dst undef) (w.setCell ⟨g, 0, none⟩ (.int .i64 v))) : op.wp Try.prog a w K Q := by
  have z := Try.sizeOf3
  have g1 := Try.isAgg3
  unfold Oper.wp execOp
  simp only [ho, hx, hy]
  go_simp
  exact h
theorem wp_nopanic {P : Program} {c : Code} {Q : Exit → Act → World → Prop} {a : Act} {w : World} (h : c.wp P (fun e a w => match e with | .normal => Q .normal a w | _ => False) a w) : c.wp P Q a w :=
  Code.wp_mono (fun e a w h => by cases e <;> first | exact h | exact h.elim) h
theorem wrap_few {v : Int} (h0 : 0 ≤ v) (h1 : v ≤ 536870912) : IntKind.i64.wrap v = v := by
  unfold IntKind.wrap
  simp only [IntKind.bits, IntKind.signed]
  have e : v % (2 ^ 64 : Int) = v := Int.emod_eq_of_lt h0 (by omega)
  simp
  omega
section
variable {P : Program} {l : List Oper} {Q : Exit → Act → World → Prop} {md : Region.Mode} {S : World → Prop} {fuel : Nat} {listed : Array Bool} {a : Act} {w : World}
theorem h_skipO {i : Nat} {oi : Oper} (hi : l[i]? = some oi) (hs : Region.noSelect l.toArray = true) (hf : Region.free md l.toArray listed i = true) (hr : (Region.ready md l.toArray listed).contains i = true)
    (hQ : ∀ c a w, Q (.panic c) (a.put oi.dst undef) w → Q (.panic c) a w) (hw : Region.wanted oi (yielded l.toArray a.tmps) = false) (hS : S w)
    (h : wpAnyH P md l.toArray Q S fuel (listed.setIfInBounds i true) (a.put oi.dst undef) w) : wpAnyH P md l.toArray Q S (fuel + 1) listed a w :=
  wpAnyH_take (by simpa using hi) hs hf hr hQ (.inr ⟨hw, rfl⟩) hS h
end
theorem off_set {w : World} {g : Nat} (v : Value) : Off (fun k => k = g) w (w.setCell ⟨g, 0, none⟩ v) := Off.of_grown (grown_set (w := w) (g := g) (o := 0) v) (fun k hk => by cases hk; rfl)
attribute [local go_sem] Oper.semAt_some
@[reducible] def mkD (D : Nat) : Deferred := { target := .collected D, args := #[] }
@[reducible] def frO (br rb sb : Nat) (v : Value) (n0 k : Nat) (u : Nat → Value) : Array Value := #[u 0, u 1, .pointer (some ⟨br, 0, none⟩), .pointer (some ⟨rb, 0, none⟩), .pointer (some ⟨sb, 0, none⟩), u 5, u 6, u 7, u 8, u 9, u 10, u 11, u 12, u 13, u 14, u 15, u 16, u 17, u 18, u 19, u 20, u 21, u 22, u 23, u 24, u 25, u 26, u 27, u 28, u 29, u 30, u 31, u 32, u 33, u 34, u 35, u 36, u 37, v, .int .i64 (n0 : Nat), .int .i64 (k : Nat), u 41, u 42, u 43, u 44, u 45, u 46, u 47, u 48, u 49, u 50, u 51, u 52, u 53, u 54, u 55, u 56, u 57, u 58, u 59, u 60, u 61, u 62, u 63, u 64, u 65, u 66, u 67, u 68, u 69, u 70, u 71, u 72, u 73, u 74, u 75, u 76, u 77, u 78, u 79, u 80, u 81, u 82, u 83, u 84, u 85, u 86, u 87, u 88, u 89, u 90, u 91, u 92, u 93, u 94, u 95, u 96, u 97, u 98, u 99, u 100, u 101, u 102, u 103, u 104, u 105, u 106, u 107, u 108, u 109, u 110, u 111, u 112, u 113, u 114, u 115, u 116, u 117, u 118, u 119, u 120, u 121, u 122, u 123, u 124, u 125, u 126, u 127, u 128, u 129, u 130, u 131, u 132, u 133, u 134, u 135, u 136, u 137, u 138, u 139, u 140, u 141, u 142, u 143, u 144, u 145, u 146, u 147, u 148, u 149, u 150, u 151, u 152, u 153, u 154, u 155, u 156, u 157, u 158, u 159, u 160, u 161, u 162, u 163, u 164, u 165, u 166, u 167, u 168]
structure OneI (W0 : World) (br rb sb n0 k : Nat) (cur : List Int) (Ds : List Nat) (W : World) : Prop where
  hk : k ≤ n0
  r2 : R2X (fun q => W0.heap.size ≤ q ∧ q ∉ Ds) rb cur sb [] W
  cnt : cntR cur ≤ 101 * k
  bel : Below W0.heap.size W0 W
  nd : Ds.Nodup
  ds : ∀ D ∈ Ds, W0.heap.size ≤ D ∧ W.heap[D]? = some (.deferred (some []))
theorem cnt_stepO (l : List Int) (i j : Int) (xs : List Rw) {k : Nat} (hx : xs.length ≤ 100) (h : cntR l ≤ 101 * k) : cntR (spL l i j xs) ≤ 101 * (k + 1) := by
  have := spL_cnt l i j xs
  omega
theorem cnt_mapO (l : List Int) (i j : Int) (g : Int → Int) {k : Nat} (h : cntR l ≤ 101 * k) : cntR (mpL l i j g) ≤ 101 * (k + 1) := by
  have := mpL_cnt2 l i j g
  omega
set_option maxHeartbeats 2000000 in
theorem one_long (v0 : Value) (ls : List OpL) (w : World) (h0 : Orow w v0 ls) (hl : ¬ ls.length ≤ 60) :
    Calls Try.prog 4 #[v0] w fun e w' => e = .returned (.bool true) ∧ Below w.heap.size w w' := by
  obtain ⟨a0, c0, rfl⟩ := h0.shape
  have hlen := h0.len
  have g0 : decide ((60 : Int) < (ls.length : Int)) = true := decide_eq_true (by omega)
  have HW := Lib.hid (show Cb w.heap.size 4 #[.bool false] (w.alloc (.cells #[.bool false] 4)) ∧ Below w.heap.size w (w.alloc (.cells #[.bool false] 4)) from ⟨cb_new w _ _, (Below.refl w.heap.size w).alloc (Nat.le_refl _) _⟩)
  clear h0 hl
  go_enter Try.func4, Try.ntmps4
  go_upto_region 1 with fail
  refine with_worldT (fun W => Cb w.heap.size 4 #[.bool false] W ∧ Below w.heap.size w W) HW.out fun W0 hW0 => ?_
  have C0 := Lib.hid hW0.1
  have B0 := Lib.hid hW0.2
  clear hW0 HW
  go_wp2_with (first
    | (go_at_call 19; refine (rv_new (B := W0.heap.size) W0 (Nat.le_refl _)).mono ?_; rintro e w1 ⟨rb, rfl, q1, bb⟩; have R1 := Lib.hid q1; have C1 := Lib.hid (C0.out.below bb); have B1 := Lib.hid (below_add B0.out bb B0.out.size); clear q1 bb B0 C0)
    | (go_at_call 19; refine (rv_new2 R1.out).mono ?_; rintro e w2 ⟨sb, rfl, q1, bb⟩; have C2 := Lib.hid (C1.out.below bb); have B2 := Lib.hid (below_add B1.out bb B1.out.size); clear q1 bb R1 B1 C1)
    | (go_at_call 8; refine (known11_any _).mono ?_; rintro e w3 ⟨rfl, bb⟩; have C3 := Lib.hid (C2.out.below bb); have c4 := (C2.out.below bb).cell 0; have f4 := (C2.out.below bb).frozen 0; have B3 := Lib.hid (below_add B2.out bb B2.out.size); clear bb))
  have C4 : Cb w.heap.size 4 #[.bool true] (w3.setCell ⟨w.heap.size, 0, none⟩ (.bool true)) := heap_set _ C3.out
  have c5 : _ = some (Value.bool true) := C4.cell 0
  have hb : Below w.heap.size w (w3.setCell ⟨w.heap.size, 0, none⟩ (.bool true)) := B3.out.setCell (p := ⟨w.heap.size, 0, none⟩) (Nat.le_refl _) (.bool true)
  refine bodyPost_ret (by simp [results, Try.results4, go_sem, c5]) rfl ⟨rfl, hb⟩
set_option maxHeartbeats 16000000 in
theorem one_main (v0 : Value) (ls : List OpL) (w : World) (h0 : Orow w v0 ls) (hl : ls.length ≤ 60) :
    Calls Try.prog 4 #[v0] w fun e w' => e = .returned (.bool true) ∧ Below w.heap.size w w' := by
  obtain ⟨a0, c0, rfl⟩ := h0.shape
  have HW := Lib.hid (show Cb w.heap.size 4 #[.bool false] (w.alloc (.cells #[.bool false] 4)) ∧ Below w.heap.size w (w.alloc (.cells #[.bool false] 4)) from ⟨cb_new w _ _, (Below.refl w.heap.size w).alloc (Nat.le_refl _) _⟩)
  have HO := Lib.hid (h0.below HW.out.2)
  obtain ⟨n0, hn0⟩ : ∃ n, ls.length = n := ⟨_, rfl⟩
  have N0 := Lib.hid hn0
  rw [hn0] at HO hl ⊢
  have g0 : decide ((60 : Int) < (n0 : Int)) = false := decide_eq_false (by omega)
  clear h0 hn0
  refine (callsIn_wide (n := 9)).1 ?_
  refine callsIn_of_wp_marks Try.func4 rfl trivial ?_ rfl
  simp only [Try.ntmps4, List.size_toArray, List.length_cons, List.length_nil, Nat.reduceAdd, Nat.reduceSub, Array.replicate_succ, Array.replicate_zero, List.push_toArray, List.append_toArray, List.nil_append, List.cons_append]
  refine wpIn_wide.2 ?_
  go_upto_region 1 with fail
  refine with_worldT (fun W => Cb w.heap.size 4 #[.bool false] W ∧ Below w.heap.size w W ∧ Orow W (.slice a0 n0 c0) ls) ⟨HW.out.1, HW.out.2, HO.out⟩ fun W0 hW0 => ?_
  have C0 := Lib.hid hW0.1
  have B0 := Lib.hid hW0.2.1
  have H0 := Lib.hid hW0.2.2
  obtain ⟨br, hbr⟩ : ∃ b, w.heap.size = b := ⟨_, rfl⟩
  have HBR := Lib.hid hbr
  clear hW0 HW HO
  rw [hbr] at C0
  try rw [hbr]
  clear hbr
  go_wp2_with (first
    | (go_at_call 19; refine (rv_new (B := W0.heap.size) W0 (Nat.le_refl _)).mono ?_; rintro e w1 ⟨rb, rfl, q1, bb⟩; have R1 := Lib.hid q1; have B1 := Lib.hid bb; clear q1 bb)
    | (go_at_call 19; refine (rv_new2 R1.out).mono ?_; rintro e w2 ⟨sb, rfl, q1, bb⟩; have R2 := Lib.hid q1; have B2 := Lib.hid (below_add B1.out bb B1.out.size); clear q1 bb R1 B1))
  refine wp_loop (fun a wr => ∃ (k : Nat) (cur : List Int) (Ds : List Nat), a = { tmps := frO br rb sb (.slice a0 n0 c0) n0 k (fun i => a.tmps.getD i undef), defers := Ds.map mkD } ∧ Hid (OneI W0 br rb sb n0 k cur Ds wr)) (fun a _ => n0 - (intOf (a.tmps.getD 40 undef)).toNat) ?_ ?_
  · exact ⟨0, [], [], rfl, Lib.hid ⟨Nat.zero_le _, R2.out.r2x (fun q hq _ => ⟨hq, by simp⟩), by rw [cntR_nil]; exact Nat.zero_le _, B2.out, List.nodup_nil, fun D hD => (by cases hD)⟩⟩
  clear R2 B2
  rintro a wr ⟨k, cur, Ds, ha, HI⟩
  obtain ⟨u, hu⟩ : ∃ u : Nat → Value, u = fun i => a.tmps.getD i undef := ⟨_, rfl⟩
  rw [← hu] at ha
  clear hu
  subst ha
  have i0 : (0 : Int) ≤ (k : Int) := by omega
  by_cases hlt : k < n0
  · obtain ⟨b, off, rfl, -, hcap, hmx, hb, hat⟩ := H0.out.opn (by rw [N0.out]; omega)
    obtain ⟨xa, xc, ck, ci, cj, cx, cb, cp, hx⟩ := hat k (by rw [N0.out]; exact hlt)
    generalize ls[k]'(by rw [N0.out]; exact hlt) = o at *
    obtain ⟨ok, oi, oj, ox, ob, op⟩ := o
    dsimp only at ck ci cj cx cb cp hx
    have HX0 := Lib.hid hx
    have i1 : (k : Int) < n0 := by omega
    have g9 : decide ((k : Int) < (n0 : Int)) = true := decide_eq_true i1
    replace ck := (HI.out.bel.cell (World.block_lt_of_cell? _ _ ck)).trans ck
    replace ci := (HI.out.bel.cell (World.block_lt_of_cell? _ _ ci)).trans ci
    replace cj := (HI.out.bel.cell (World.block_lt_of_cell? _ _ cj)).trans cj
    replace cx := (HI.out.bel.cell (World.block_lt_of_cell? _ _ cx)).trans cx
    replace cb := (HI.out.bel.cell (World.block_lt_of_cell? _ _ cb)).trans cb
    replace cp := (HI.out.bel.cell (World.block_lt_of_cell? _ _ cp)).trans cp
    have hcx : ox.length ≤ 9223372036854775807 := hx.len
    clear hat hx hb
    obtain ⟨nx, hnx⟩ : ∃ n, ox.length = n := ⟨_, rfl⟩
    have NX := Lib.hid hnx
    rw [hnx] at cx hcx HX0
    clear hnx
    have HIQ := Lib.hid HI
    have HBX := Lib.hid (show Cb wr.heap.size 24 (opcs ⟨ok, oi, oj, xa, nx, xc, ob, op⟩) (wr.alloc (.cells (opcs ⟨ok, oi, oj, xa, nx, xc, ob, op⟩) 24)) ∧ Below wr.heap.size wr (wr.alloc (.cells (opcs ⟨ok, oi, oj, xa, nx, xc, ob, op⟩) 24)) from ⟨cb_new wr _ _, below_alloc1 wr _⟩)
    go_upto_region 7 with fail
    refine with_worldT (fun W => Cb wr.heap.size 24 (opcs ⟨ok, oi, oj, xa, nx, xc, ob, op⟩) W ∧ Below wr.heap.size wr W) HBX.out fun W1 hW1 => ?_
    have PB := Lib.hid hW1.1
    have B1 := Lib.hid hW1.2
    obtain ⟨bk, hbk⟩ : ∃ b, wr.heap.size = b := ⟨_, rfl⟩
    rw [hbk] at PB
    try rw [hbk]
    clear hW1 HBX ck ci cj cx cb cp hbk
    have d0 : W1.cell? ⟨bk, 0, none⟩ = some (.int .i64 ok) := PB.out.cell 0
    have d1 : W1.cell? ⟨bk, 1, none⟩ = some (.int .i64 oi) := PB.out.cell 1
    have d2 : W1.cell? ⟨bk, 2, none⟩ = some (.int .i64 oj) := PB.out.cell 2
    have d3 : W1.cell? ⟨bk, 3, none⟩ = some (.slice xa nx xc) := PB.out.cell 3
    have d4 : W1.cell? ⟨bk, 4, none⟩ = some (.int .i64 ob) := PB.out.cell 4
    have d5 : W1.cell? ⟨bk, 5, none⟩ = some (.int .i64 op) := PB.out.cell 5
    have R1 := Lib.hid (HI.out.r2.below B1.out)
    have XU := Lib.hid (show ∀ q, W1.heap.size ≤ q → W0.heap.size ≤ q ∧ q ∉ Ds from fun q hq => ⟨Nat.le_trans (below_add HI.out.bel B1.out HI.out.bel.size).size hq, fun hD => by have := lt_of_heap (HI.out.ds q hD).2; have := B1.out.size; omega⟩)
    have BW1 := Lib.hid (below_add HI.out.bel B1.out HI.out.bel.size)
    by_cases h100 : nx ≤ 100
    · have g1 : decide ((100 : Int) < (nx : Int)) = false := decide_eq_false (by omega)
      by_cases h2 : ok = 2
      · subst h2
        have HM := Lib.hid (r2x_mapA R1.out XU.out (by have := HI.out.cnt; have := HI.out.hk; omega) oi oj ⟨2, oi, oj, xa, nx, xc, ob, op⟩)
        have HC2 := Lib.hid (cnt_mapO cur oi oj (mapF ob op) (k := k) HI.out.cnt)
        rw [show opA ⟨2, oi, oj, xa, nx, xc, ob, op⟩ = .agg #[.int .i64 2, .int .i64 oi, .int .i64 oj, .slice xa nx xc, .int .i64 ob, .int .i64 op] from rfl] at HM
        dsimp only at HM
        obtain ⟨cur2, hcur⟩ : ∃ c, mpL cur oi oj (mapF ob op) = c := ⟨_, rfl⟩
        rw [hcur] at HM HC2
        clear hcur
        go_upto_region 11 with (go_at_call 13; refine HM.out.mono ?_; rintro e W2 ⟨rfl, rr, oo⟩; have R2 := Lib.hid rr; have X2 := Lib.hid oo; clear rr oo)
        clear HM d0 d1 d2 d3 d4 d5
        go_upto_region 12 with fail
        refine with_worldT (fun W => Cb W2.heap.size 3 #[.int .i64 0] W ∧ Cb (W2.heap.size + 1) 3 #[.int .i64 (-1)] W ∧ Below W2.heap.size W2 W) ⟨(cb_new W2 _ _).alloc _, by have := cb_new (W2.alloc (.cells #[.int .i64 0] 3)) 3 #[.int .i64 (-1)]; simpa using this, ((Below.refl W2.heap.size W2).alloc (Nat.le_refl _) (.cells #[.int .i64 0] 3)).alloc (by simp) (.cells #[.int .i64 (-1)] 3)⟩ fun W3 hW3 => ?_
        obtain ⟨bn, hbn⟩ : ∃ b, W2.heap.size = b := ⟨_, rfl⟩
        obtain ⟨bl, hbl⟩ : ∃ b, bn + 1 = b := ⟨_, rfl⟩
        have HZN := Lib.hid (show W2.heap.size = bn ∧ bn + 1 = bl from ⟨hbn, hbl⟩)
        have HW3 := Lib.hid hW3
        rw [hbn] at HW3 ⊢
        rw [hbl] at HW3 ⊢
        clear hbn hbl hW3
        go_wp2_with (go_at_call 11; refine (all_any (some ⟨rb, 0, none⟩) _).mono ?_; rintro e w4 ⟨bx, rfl, hc, hge, bb⟩; have CX := Lib.hid hc; have GE := Lib.hid hge; have B4 := Lib.hid bb; clear hc hge bb)
        have HN2 := Lib.hid R2.out.2.1
        have B24 := Lib.hid (show Below W2.heap.size W2 w4 from below_add (by rw [HZN.out.1]; exact HW3.out.2.2) B4.out (by have := HW3.out.2.2.size; have := HZN.out; omega))
        obtain ⟨S, T, hS, -, hS2, -, -⟩ := R2.out.1
        have HRG := Lib.hid (show Rp S rb cur2 w4 ∧ (∀ q, S q → q < w4.heap.size ∧ ¬ (q = bn ∨ q = bl)) ∧ Cb bx 26 #[.pointer (some ⟨rb, 0, none⟩)] w4 ∧ (bx < w4.heap.size ∧ ¬ (bx = bn ∨ bx = bl)) ∧ Go.Proofs.Ytoppgdhidnpibaa.wq cur2 ≤ 4000000000 ∧ bl < w4.heap.size from by
          have z1 := HZN.out
          have z2 := HW3.out.2.1.lt
          have z3 := B4.out.size
          have z4 := GE.out
          have z5 := HC2.out
          have z6 := HI.out.hk
          refine ⟨hS.below B24.out, fun q hq => ?_, CX.out, ⟨CX.out.lt, by omega⟩, (R2.out.fst).wq (by omega), by omega⟩
          have := (hS2 q hq).2
          omega)
        have HI0 := Lib.hid (show OnK w4 bn bl (rl cur2) [] 0 (-1) w4 from ⟨HW3.out.1.below B4.out, HW3.out.2.1.below B4.out, fun _ => ⟨rfl, rfl⟩, KpX.refl _ _ _⟩)
        have HNN := Lib.hid (show (rl cur2).length ≤ 400000 from by have := HC2.out; have := HI.out.hk; unfold cntR at this; unfold cntR at *; omega)
        have HGD := Lib.hid (fun (pre : List Ck) (x : Ck) (h : pre ++ [x] <+: rl cur2) => on_good HN2.out.2 HN2.out.1 h)
        have BW2 := Lib.hid (show Below W0.heap.size W0 W2 from BW1.out.trans (X2.out.below (fun q h => h.1) BW1.out.size))
        have CBR := Lib.hid (show Cb br 4 #[.bool false] w4 ∧ br < w4.heap.size ∧ ¬ (br = bn ∨ br = bl) from by
          have b1 := below_add BW2.out B24.out BW2.out.size
          have z0 := C0.out.lt
          have z1 := HZN.out
          have z2 := BW2.out.size
          have z3 := b1.size
          exact ⟨C0.out.below b1, by omega, by omega⟩)
        clear hS hS2 CX GE HW3 B4
        refine (wpIn_wide (n := 9)).1 ?_
        refine act_gen fun T9 hT => ?_
        refine wpIn_rangeFunc_ownH (α := Ck) (encs := fun x => #[cvs x]) (Kp := KpX w4.heap.size (fun q => q = bn ∨ q = bl)) (S := fun ys => ys = rl cur2) (Sp := fun pre => pre <+: rl cur2) (N := (rl cur2).length) (w0 := w4) rfl (by decide)
          (gf := 27) (lb := #[.pointer (some ⟨bx, 0, none⟩)]) (by rw [← hT]; rfl) trivial (enters_of Try.func27 (by kernel_rfl) rfl) ?seq (fun h k => h.trans k) ?kb (Below.refl _ _) (fun _ => rfl)
          (fun pre W => ∃ z y, OnK w4 bn bl (rl cur2) pre z y W)
          (fun c pre W => ¬ pre <+: rl cur2)
          (fun pre A B' row ⟨z, y, h⟩ hg hr => ⟨z, y, h.grown hg hr⟩)
          (fun c pre A B' row h hg hr => h)
          ⟨_, _, HI0.out⟩
          (fun x a' W => ∃ Bx, w4.heap.size ≤ Bx ∧ Cb Bx 44 (crow x) W ∧ a' = { tmps := (T9.tmps.setIfInBounds 69 (cvs x)).setIfInBounds 9 (.pointer (some ⟨Bx, 0, none⟩)), defers := [] })
          (fun x a' _ X Y row hs hg hr => by obtain ⟨Bx, h1, h2, h3⟩ := hs; exact ⟨Bx, h1, cb_grown h2 hg (fun r e => (hr r e).2), h3⟩)
          ?assign ?body ?done ?stop
        case seq =>
          intro ln J Jx W hW hJ hJx hY h0
          exact all1_sp (n0 := w4.heap.size) (X := fun q => q = bn ∨ q = bl) (S := S) (rb := rb) (bx := bx) (l := cur2) 8 ln (by decide) J Jx (fun pre A A' hA hb => hJ pre A A' none hA ⟨hb.os, hb.tape, hb.output, hb.size, fun k hk _ => hb.block k hk⟩ (fun r e => by cases e)) HRG.out.2.1 HRG.out.2.2.2.1 hY W (HRG.out.2.2.1.below hW) (HRG.out.1.below hW) HRG.out.2.2.2.2.1 h0
        case kb =>
          intro W k o1 o2 hk ho h1 h2
          exact KpX.putObj (o := o1) W o2 hk
        case assign =>
          rintro ln pre x W K ⟨z, y, hI⟩ hK
          subst hT
          have hxl := xc_size x
          have V4 := Lib.hid (cb_new W 44 czr)
          refine regionIn_of_plain (fun _ _ h => h) rfl ?_
          go_wp2_with (refine wpList_store_row rfl 44 (.tmp 9) (.tmp 69) rfl W.heap.size (crow x) rfl rfl _ _ V4.out (xinfo hxl) (by rw [hxl]; exact xz_size) (crow_one _) ?_)
          have hb : Below W.heap.size W ((W.alloc (.cells czr 44)).setRow W.heap.size (crow x)) := below_row ((Below.refl _ W).alloc (Nat.le_refl _) _) (Nat.le_refl _)
          exact hK _ _ ((keeps_off (S := fun _ => False) (Off.of_below hb) (fun k h => h.elim)).from _) (KpX.of_below hb) ⟨z, y, hI.below hb⟩ ⟨W.heap.size, hI.kp.size, V4.out.set _, rfl⟩
        case body =>
          rintro ln pre x a' W hln ⟨r, hr⟩ ⟨z, y, hI⟩ ⟨Bx, hBx, hcx, rfl⟩ hlt
          subst hT
          have c1 : W.cell? ⟨bn, 0, none⟩ = some (.int .i64 z) := hI.c1.cell 0
          have c2 : W.cell? ⟨bl, 0, none⟩ = some (.int .i64 y) := hI.c2.cell 0
          have x0 : W.cell? ⟨Bx, 0, none⟩ = some (.int .i64 (x.n : Nat)) := hcx.cell 0
          have x1 : W.cell? ⟨Bx, 1, none⟩ = some (.int .i64 x.d) := hcx.cell 1
          have hbr := hI.kp.cb CBR.out.1 CBR.out.2
          have r1 : W.cell? ⟨br, 0, none⟩ = some (.bool false) := hbr.cell 0
          have r2 := hbr.frozen 0
          have HII := Lib.hid hI
          have HCX := Lib.hid hcx
          have HBX := Lib.hid (show Bx ≠ bn ∧ Bx ≠ bl ∧ bn ≠ bl by have := HRG.out.2.2.2.2.2; have := HZN.out; omega)
          have HBAD := Lib.hid (show (x.n < 1 ∨ x.d = y ∨ x.d < 0) → ¬ (pre ++ [x] <+: rl cur2) from fun hb h => by
            obtain ⟨q1, q2, q3, -, -⟩ := HGD.out pre x h
            have q4 := (HII.out.ok (pre_cut h)).2
            rcases hb with hb | hb | hb
            · omega
            · exact q2 (hb.trans q4)
            · omega)
          clear hI hcx hbr hlt
          by_cases t1 : x.n < 1
          · have u1 : decide ((x.n : Int) < 1) = true := decide_eq_true (by omega)
            have HB := Lib.hid (HBAD.out (.inl t1))
            refine wpIn_block ?_
            gi_wp2
            exact ⟨keeps_set, HB.out⟩
          have u1 : decide ((x.n : Int) < 1) = false := decide_eq_false (by omega)
          by_cases t2 : x.d = y
          · have u2 : (x.d == y) = true := beq_iff_eq.2 t2
            have HB := Lib.hid (HBAD.out (.inr (.inl t2)))
            clear t2
            refine wpIn_block ?_
            gi_wp2
            exact ⟨keeps_set, HB.out⟩
          have u2 : (x.d == y) = false := beq_eq_false_iff_ne.2 t2
          by_cases t3 : x.d < 0
          · have u3 : decide (x.d < 0) = true := decide_eq_true t3
            have HB := Lib.hid (HBAD.out (.inr (.inr t3)))
            refine wpIn_block ?_
            gi_wp2
            exact ⟨keeps_set, HB.out⟩
          have u3 : decide (x.d < 0) = false := decide_eq_false t3
          refine wpIn_block ?_
          gi_wp2
          have K_0 := Lib.hid (HCX.out.below (below_drew W))
          have z1 : W.drew.cell? ⟨bn, 0, none⟩ = some (.int .i64 z) := (HII.out.c1.below (below_drew W)).cell 0
          have zf1 := (HII.out.c1.below (below_drew W)).frozen 0
          have HK1 := Lib.hid (fun z' : Int => (show Cb Bx 44 (crow x) (W.drew.setCell ⟨bn, 0, none⟩ (.int .i64 z')) ∧ Cb bl 3 #[.int .i64 y] (W.drew.setCell ⟨bn, 0, none⟩ (.int .i64 z')) ∧ Cb Bx 44 (crow x) ((W.drew.setCell ⟨bn, 0, none⟩ (.int .i64 z')).setCell ⟨bl, 0, none⟩ (.int .i64 x.d)) from by
            have h1 := K_0.out.off (off_set (.int .i64 z')) (fun e => HBX.out.1 e)
            exact ⟨h1, (HII.out.c2.below (below_drew W)).off (off_set (.int .i64 z')) (fun e => HBX.out.2.2 e.symm), h1.off (off_set (.int .i64 x.d)) (fun e => HBX.out.2.1 e)⟩))
          have FINX := Lib.hid (fun (z' : Int) (hz' : pre ++ [x] <+: rl cur2 → z' = (lnS (pre ++ [x]) : Nat)) => (show KeepsFrom w4.heap.size W ((W.drew.setCell ⟨bn, 0, none⟩ (.int .i64 z')).setCell ⟨bl, 0, none⟩ (.int .i64 x.d)) ∧ KpX w4.heap.size (fun q => q = bn ∨ q = bl) W ((W.drew.setCell ⟨bn, 0, none⟩ (.int .i64 z')).setCell ⟨bl, 0, none⟩ (.int .i64 x.d)) ∧ ∃ z y, OnK w4 bn bl (rl cur2) (pre ++ [x]) z y ((W.drew.setCell ⟨bn, 0, none⟩ (.int .i64 z')).setCell ⟨bl, 0, none⟩ (.int .i64 x.d)) from by
            have k1 : KpX w4.heap.size (fun q => q = bn ∨ q = bl) W ((W.drew.setCell ⟨bn, 0, none⟩ (.int .i64 z')).setCell ⟨bl, 0, none⟩ (.int .i64 x.d)) := ((KpX.of_below (below_drew W)).trans (kpx_set (.inl rfl))).trans (kpx_set (.inr rfl))
            have c3 : Cb bn 3 #[.int .i64 z'] (W.drew.setCell ⟨bn, 0, none⟩ (.int .i64 z')) := heap_set _ (HII.out.c1.below (below_drew W))
            refine ⟨((keeps_off (S := fun _ => False) (Off.of_below (below_drew W)) (fun k h => h.elim)).from _).trans (keeps_set.trans keeps_set), k1, z', x.d, ⟨c3.off (off_set (.int .i64 x.d)) (fun e => HBX.out.2.2 e), heap_set _ (HK1.out z').2.1, fun h => ⟨hz' h, (lastD_app pre x).symm⟩, HII.out.kp.trans k1⟩⟩))
          have HQ5 := Lib.hid (show pre ++ [x] <+: rl cur2 → IntKind.i64.wrap (z + (x.n : Nat)) = (lnS (pre ++ [x]) : Nat) from fun hpre => by
            obtain ⟨q1, q2, q3, q4, q5⟩ := HGD.out pre x hpre
            have e1 := (HII.out.ok (pre_cut hpre)).1
            rw [wrap_few (by omega) (by omega), q5]
            omega)
          clear c1 c2 x0 x1 r1 r2
          refine drawnHIn_of_plain (S := fun W => Cb Bx 44 (crow x) W) (by kernel_rfl) (fun _ _ h => h) rfl ?_
          refine h_val (i := 1) (v := .pointer (some ⟨Bx, 0, none⟩)) rfl (by kernel_rfl) (by kernel_rfl) (by kernel_rfl) (fun _ _ _ h => h) (by rfl) (fun wz hS => ?_) K_0.out ?_
          · go_simp
          go_frame
          refine h_val (i := 2) (v := .int .i64 (x.n : Nat)) rfl (by kernel_rfl) (by kernel_rfl) (by kernel_rfl) (fun _ _ _ h => h) (by rfl) (fun wz hS => ?_) K_0.out ?_
          · have q : wz.cell? ⟨Bx, 0, none⟩ = some (.int .i64 (x.n : Nat)) := hS.cell 0
            go_simp
          go_frame
          refine h_val (i := 4) (v := .pointer (some ⟨Bx, 1, none⟩)) rfl (by kernel_rfl) (by kernel_rfl) (by kernel_rfl) (fun _ _ _ h => h) (by rfl) (fun wz hS => ?_) K_0.out ?_
          · go_simp
          go_frame
          refine h_val (i := 5) (v := .int .i64 x.d) rfl (by kernel_rfl) (by kernel_rfl) (by kernel_rfl) (fun _ _ _ h => h) (by rfl) (fun wz hS => ?_) K_0.out ?_
          · have q : wz.cell? ⟨Bx, 1, none⟩ = some (.int .i64 x.d) := hS.cell 1
            go_simp
          go_frame
          refine h_all1 (i := 0) (by kernel_rfl) ?_
          refine o_step rfl (by rfl) ?_
          refine wp_val (v := .int .i64 z) (by go_simp) ?_
          refine ⟨K_0.out, ?_⟩
          go_frame
          refine h_all1 (i := 3) (by kernel_rfl) ?_
          refine o_step rfl (by rfl) ?_
          refine wp_val (v := .int .i64 (IntKind.i64.wrap (z + (x.n : Nat)))) (by go_simp) ?_
          refine ⟨K_0.out, ?_⟩
          go_frame
          refine h_all1 (i := 6) (by kernel_rfl) ?_
          refine o_step rfl (by rfl) ?_
          refine wp_store1 (.tmp 7) (.tmp 87) rfl bn (IntKind.i64.wrap (z + (x.n : Nat))) z rfl rfl z1 zf1 ?_
          refine ⟨(HK1.out _).1, ?_⟩
          go_frame
          refine h_all1 (i := 7) (by kernel_rfl) ?_
          refine o_step rfl (by rfl) ?_
          refine wp_store1 (.tmp 8) (.tmp 89) rfl bl x.d y rfl rfl ((HK1.out _).2.1.cell 0) ((HK1.out _).2.1.frozen 0) ?_
          refine ⟨(HK1.out _).2.2, ?_⟩
          go_frame
          refine h_done (by kernel_rfl) ?_
          exact FINX.out (IntKind.i64.wrap (z + (x.n : Nat))) (HQ5.out)
        case stop =>
          rintro D c pre W hD hpr h hDW
          exact absurd hpr h
        case done =>
          rintro D ys W hD hS ⟨z, y, hI⟩ hDW
          obtain rfl : ys = rl cur2 := hS
          subst hT
          have hz := (hI.ok (List.prefix_rfl)).1
          rw [← flat_len, rl_flat] at hz
          subst hz
          have B25 := Lib.hid (show Below W2.heap.size W2 W from B24.out.trans (hI.kp.off.below (fun q hq => by
            have z1 := HZN.out
            have z2 := B24.out.size
            rcases hq with (rfl | rfl) | hq <;> omega) B24.out.size))
          have CN := Lib.hid (hI.c1.below (below_drew W))
          have R5 := Lib.hid (R2.out.below B25.out)
          have HL := Lib.hid (rv_len (R5.out.below (below_drew W)).fst)
          have HDW := Lib.hid (And.intro hD hDW)
          obtain ⟨nc, hnc⟩ : ∃ n, cur2.length = n := ⟨_, rfl⟩
          rw [hnc] at CN HL
          clear hI hD hDW hnc HGD CBR HRG HI0 HNN
          gi_wp2
          go_upto_region 17 with fail
          refine wp_nopanic ?_
          refine h_start (S := fun W' => Cb bn 3 #[.int .i64 (nc : Nat)] W') (by kernel_rfl) ?_
          refine h_val (i := 0) (v := .int .i64 (nc : Nat)) rfl (by kernel_rfl) (by kernel_rfl) (by kernel_rfl) (fun _ _ _ h => h) (by rfl) (fun wz hS => ?_) CN.out ?_
          · have q : wz.cell? ⟨bn, 0, none⟩ = some (.int .i64 (nc : Nat)) := hS.cell 0
            go_simp
          go_frame
          refine h_val (i := 1) (v := .pointer (some ⟨rb, 0, none⟩)) rfl (by kernel_rfl) (by kernel_rfl) (by kernel_rfl) (fun _ _ _ h => h) (by rfl) (fun wz hS => ?_) CN.out ?_
          · go_simp
          go_frame
          refine h_all1 (i := 2) (by kernel_rfl) ?_
          refine o_call (f := 15) (args := #[.pointer (some ⟨rb, 0, none⟩)]) rfl (by rfl) (by go_simp) ?_
          refine HL.out.mono ?_
          rintro e W6 ⟨rfl, b6⟩
          have B6 := Lib.hid b6
          clear b6
          refine ⟨_, rfl, CN.out.below B6.out, ?_⟩
          go_frame
          refine h_all1 (i := 3) (by kernel_rfl) ?_
          refine o_step rfl (by rfl) ?_
          refine wp_val (v := .bool false) (by go_simp) ?_
          refine ⟨CN.out.below B6.out, ?_⟩
          go_frame
          refine h_done (by kernel_rfl) ?_
          dsimp only
          go_wp2
          have B56 : Below W.heap.size W W6 := below_add (below_drew W) B6.out (below_drew (B := W.heap.size) W).size
          have B26 : Below W2.heap.size W2 W6 := below_add B25.out B56 B25.out.size
          have hDl := lt_of_heap HDW.out.2
          have zz := B24.out.size
          have old : ∀ E ∈ Ds, E < W2.heap.size ∧ W6.heap[E]? = some (.deferred (some [])) := fun E hE => by
            have h1 := (HI.out.ds E hE).2
            have h2 := (B1.out.block E (lt_of_heap h1)).trans h1
            have h3 := (X2.out.block E (lt_of_heap h2) (fun h => h.2 hE)).trans h2
            exact ⟨lt_of_heap h3, (B26.block E (lt_of_heap h3)).trans h3⟩
          refine ⟨⟨k + 1, cur2, D :: Ds, rfl, Lib.hid ?_⟩, ?_⟩
          · have hD1 := HDW.out.1
            have zw := BW2.out.size
            exact ⟨by omega, (R2.out.mono (fun q hq h => ⟨h.1, fun hh => by
              rcases List.mem_cons.1 hh with rfl | hh
              · omega
              · exact h.2 hh⟩)).below B26, HC2.out, BW2.out.trans (B26.mono BW2.out.size), List.nodup_cons.2 ⟨fun h => by
                have := (old D h).1
                omega, HI.out.nd⟩, fun E hE => by
                rcases List.mem_cons.1 hE with rfl | hE
                · exact ⟨by omega, (B56.block _ hDl).trans HDW.out.2⟩
                · exact ⟨(HI.out.ds E hE).1, (old E hE).2⟩⟩
          · simp [intOf]; omega
      · have g2 : (ok == 2) = false := beq_eq_false_iff_ne.2 h2
        have HM := Lib.hid (r2x_splice R1.out (Below.refl W1.heap.size W1) XU.out (by have := HI.out.cnt; have := HI.out.hk; have := NX.out; omega) oi oj (.slice xa nx xc) (rowX_arg HX0.out BW1.out (fun q h => h.1)))
        have HC2 := Lib.hid (cnt_stepO cur oi oj ox (k := k) (by have := NX.out; omega) HI.out.cnt)
        obtain ⟨cur2, hcur⟩ : ∃ c, spL cur oi oj ox = c := ⟨_, rfl⟩
        rw [hcur] at HM HC2
        clear hcur
        go_upto_region 11 with (go_at_call 12; refine HM.out.mono ?_; rintro e W2 ⟨rfl, rr, oo⟩; have R2 := Lib.hid rr; have X2 := Lib.hid oo; clear rr oo)
        clear HM d0 d1 d2 d3 d4 d5
        go_upto_region 12 with fail
        refine with_worldT (fun W => Cb W2.heap.size 3 #[.int .i64 0] W ∧ Cb (W2.heap.size + 1) 3 #[.int .i64 (-1)] W ∧ Below W2.heap.size W2 W) ⟨(cb_new W2 _ _).alloc _, by have := cb_new (W2.alloc (.cells #[.int .i64 0] 3)) 3 #[.int .i64 (-1)]; simpa using this, ((Below.refl W2.heap.size W2).alloc (Nat.le_refl _) (.cells #[.int .i64 0] 3)).alloc (by simp) (.cells #[.int .i64 (-1)] 3)⟩ fun W3 hW3 => ?_
        obtain ⟨bn, hbn⟩ : ∃ b, W2.heap.size = b := ⟨_, rfl⟩
        obtain ⟨bl, hbl⟩ : ∃ b, bn + 1 = b := ⟨_, rfl⟩
        have HZN := Lib.hid (show W2.heap.size = bn ∧ bn + 1 = bl from ⟨hbn, hbl⟩)
        have HW3 := Lib.hid hW3
        rw [hbn] at HW3 ⊢
        rw [hbl] at HW3 ⊢
        clear hbn hbl hW3
        go_wp2_with (go_at_call 11; refine (all_any (some ⟨rb, 0, none⟩) _).mono ?_; rintro e w4 ⟨bx, rfl, hc, hge, bb⟩; have CX := Lib.hid hc; have GE := Lib.hid hge; have B4 := Lib.hid bb; clear hc hge bb)
        have HN2 := Lib.hid R2.out.2.1
        have B24 := Lib.hid (show Below W2.heap.size W2 w4 from below_add (by rw [HZN.out.1]; exact HW3.out.2.2) B4.out (by have := HW3.out.2.2.size; have := HZN.out; omega))
        obtain ⟨S, T, hS, -, hS2, -, -⟩ := R2.out.1
        have HRG := Lib.hid (show Rp S rb cur2 w4 ∧ (∀ q, S q → q < w4.heap.size ∧ ¬ (q = bn ∨ q = bl)) ∧ Cb bx 26 #[.pointer (some ⟨rb, 0, none⟩)] w4 ∧ (bx < w4.heap.size ∧ ¬ (bx = bn ∨ bx = bl)) ∧ Go.Proofs.Ytoppgdhidnpibaa.wq cur2 ≤ 4000000000 ∧ bl < w4.heap.size from by
          have z1 := HZN.out
          have z2 := HW3.out.2.1.lt
          have z3 := B4.out.size
          have z4 := GE.out
          have z5 := HC2.out
          have z6 := HI.out.hk
          refine ⟨hS.below B24.out, fun q hq => ?_, CX.out, ⟨CX.out.lt, by omega⟩, (R2.out.fst).wq (by omega), by omega⟩
          have := (hS2 q hq).2
          omega)
        have HI0 := Lib.hid (show OnK w4 bn bl (rl cur2) [] 0 (-1) w4 from ⟨HW3.out.1.below B4.out, HW3.out.2.1.below B4.out, fun _ => ⟨rfl, rfl⟩, KpX.refl _ _ _⟩)
        have HNN := Lib.hid (show (rl cur2).length ≤ 400000 from by have := HC2.out; have := HI.out.hk; unfold cntR at this; unfold cntR at *; omega)
        have HGD := Lib.hid (fun (pre : List Ck) (x : Ck) (h : pre ++ [x] <+: rl cur2) => on_good HN2.out.2 HN2.out.1 h)
        have BW2 := Lib.hid (show Below W0.heap.size W0 W2 from BW1.out.trans (X2.out.below (fun q h => h.1) BW1.out.size))
        have CBR := Lib.hid (show Cb br 4 #[.bool false] w4 ∧ br < w4.heap.size ∧ ¬ (br = bn ∨ br = bl) from by
          have b1 := below_add BW2.out B24.out BW2.out.size
          have z0 := C0.out.lt
          have z1 := HZN.out
          have z2 := BW2.out.size
          have z3 := b1.size
          exact ⟨C0.out.below b1, by omega, by omega⟩)
        clear hS hS2 CX GE HW3 B4
        refine (wpIn_wide (n := 9)).1 ?_
        refine act_gen fun T9 hT => ?_
        refine wpIn_rangeFunc_ownH (α := Ck) (encs := fun x => #[cvs x]) (Kp := KpX w4.heap.size (fun q => q = bn ∨ q = bl)) (S := fun ys => ys = rl cur2) (Sp := fun pre => pre <+: rl cur2) (N := (rl cur2).length) (w0 := w4) rfl (by decide)
          (gf := 27) (lb := #[.pointer (some ⟨bx, 0, none⟩)]) (by rw [← hT]; rfl) trivial (enters_of Try.func27 (by kernel_rfl) rfl) ?seq (fun h k => h.trans k) ?kb (Below.refl _ _) (fun _ => rfl)
          (fun pre W => ∃ z y, OnK w4 bn bl (rl cur2) pre z y W)
          (fun c pre W => ¬ pre <+: rl cur2)
          (fun pre A B' row ⟨z, y, h⟩ hg hr => ⟨z, y, h.grown hg hr⟩)
          (fun c pre A B' row h hg hr => h)
          ⟨_, _, HI0.out⟩
          (fun x a' W => ∃ Bx, w4.heap.size ≤ Bx ∧ Cb Bx 44 (crow x) W ∧ a' = { tmps := (T9.tmps.setIfInBounds 69 (cvs x)).setIfInBounds 9 (.pointer (some ⟨Bx, 0, none⟩)), defers := [] })
          (fun x a' _ X Y row hs hg hr => by obtain ⟨Bx, h1, h2, h3⟩ := hs; exact ⟨Bx, h1, cb_grown h2 hg (fun r e => (hr r e).2), h3⟩)
          ?assign ?body ?done ?stop
        case seq =>
          intro ln J Jx W hW hJ hJx hY h0
          exact all1_sp (n0 := w4.heap.size) (X := fun q => q = bn ∨ q = bl) (S := S) (rb := rb) (bx := bx) (l := cur2) 8 ln (by decide) J Jx (fun pre A A' hA hb => hJ pre A A' none hA ⟨hb.os, hb.tape, hb.output, hb.size, fun k hk _ => hb.block k hk⟩ (fun r e => by cases e)) HRG.out.2.1 HRG.out.2.2.2.1 hY W (HRG.out.2.2.1.below hW) (HRG.out.1.below hW) HRG.out.2.2.2.2.1 h0
        case kb =>
          intro W k o1 o2 hk ho h1 h2
          exact KpX.putObj (o := o1) W o2 hk
        case assign =>
          rintro ln pre x W K ⟨z, y, hI⟩ hK
          subst hT
          have hxl := xc_size x
          have V4 := Lib.hid (cb_new W 44 czr)
          refine regionIn_of_plain (fun _ _ h => h) rfl ?_
          go_wp2_with (refine wpList_store_row rfl 44 (.tmp 9) (.tmp 69) rfl W.heap.size (crow x) rfl rfl _ _ V4.out (xinfo hxl) (by rw [hxl]; exact xz_size) (crow_one _) ?_)
          have hb : Below W.heap.size W ((W.alloc (.cells czr 44)).setRow W.heap.size (crow x)) := below_row ((Below.refl _ W).alloc (Nat.le_refl _) _) (Nat.le_refl _)
          exact hK _ _ ((keeps_off (S := fun _ => False) (Off.of_below hb) (fun k h => h.elim)).from _) (KpX.of_below hb) ⟨z, y, hI.below hb⟩ ⟨W.heap.size, hI.kp.size, V4.out.set _, rfl⟩
        case body =>
          rintro ln pre x a' W hln ⟨r, hr⟩ ⟨z, y, hI⟩ ⟨Bx, hBx, hcx, rfl⟩ hlt
          subst hT
          have c1 : W.cell? ⟨bn, 0, none⟩ = some (.int .i64 z) := hI.c1.cell 0
          have c2 : W.cell? ⟨bl, 0, none⟩ = some (.int .i64 y) := hI.c2.cell 0
          have x0 : W.cell? ⟨Bx, 0, none⟩ = some (.int .i64 (x.n : Nat)) := hcx.cell 0
          have x1 : W.cell? ⟨Bx, 1, none⟩ = some (.int .i64 x.d) := hcx.cell 1
          have hbr := hI.kp.cb CBR.out.1 CBR.out.2
          have r1 : W.cell? ⟨br, 0, none⟩ = some (.bool false) := hbr.cell 0
          have r2 := hbr.frozen 0
          have HII := Lib.hid hI
          have HCX := Lib.hid hcx
          have HBX := Lib.hid (show Bx ≠ bn ∧ Bx ≠ bl ∧ bn ≠ bl by have := HRG.out.2.2.2.2.2; have := HZN.out; omega)
          have HBAD := Lib.hid (show (x.n < 1 ∨ x.d = y ∨ x.d < 0) → ¬ (pre ++ [x] <+: rl cur2) from fun hb h => by
            obtain ⟨q1, q2, q3, -, -⟩ := HGD.out pre x h
            have q4 := (HII.out.ok (pre_cut h)).2
            rcases hb with hb | hb | hb
            · omega
            · exact q2 (hb.trans q4)
            · omega)
          clear hI hcx hbr hlt
          by_cases t1 : x.n < 1
          · have u1 : decide ((x.n : Int) < 1) = true := decide_eq_true (by omega)
            have HB := Lib.hid (HBAD.out (.inl t1))
            refine wpIn_block ?_
            gi_wp2
            exact ⟨keeps_set, HB.out⟩
          have u1 : decide ((x.n : Int) < 1) = false := decide_eq_false (by omega)
          by_cases t2 : x.d = y
          · have u2 : (x.d == y) = true := beq_iff_eq.2 t2
            have HB := Lib.hid (HBAD.out (.inr (.inl t2)))
            clear t2
            refine wpIn_block ?_
            gi_wp2
            exact ⟨keeps_set, HB.out⟩
          have u2 : (x.d == y) = false := beq_eq_false_iff_ne.2 t2
          by_cases t3 : x.d < 0
          · have u3 : decide (x.d < 0) = true := decide_eq_true t3
            have HB := Lib.hid (HBAD.out (.inr (.inr t3)))
            refine wpIn_block ?_
            gi_wp2
            exact ⟨keeps_set, HB.out⟩
          have u3 : decide (x.d < 0) = false := decide_eq_false t3
          refine wpIn_block ?_
          gi_wp2
          have K_0 := Lib.hid (HCX.out.below (below_drew W))
          have z1 : W.drew.cell? ⟨bn, 0, none⟩ = some (.int .i64 z) := (HII.out.c1.below (below_drew W)).cell 0
          have zf1 := (HII.out.c1.below (below_drew W)).frozen 0
          have HK1 := Lib.hid (fun z' : Int => (show Cb Bx 44 (crow x) (W.drew.setCell ⟨bn, 0, none⟩ (.int .i64 z')) ∧ Cb bl 3 #[.int .i64 y] (W.drew.setCell ⟨bn, 0, none⟩ (.int .i64 z')) ∧ Cb Bx 44 (crow x) ((W.drew.setCell ⟨bn, 0, none⟩ (.int .i64 z')).setCell ⟨bl, 0, none⟩ (.int .i64 x.d)) from by
            have h1 := K_0.out.off (off_set (.int .i64 z')) (fun e => HBX.out.1 e)
            exact ⟨h1, (HII.out.c2.below (below_drew W)).off (off_set (.int .i64 z')) (fun e => HBX.out.2.2 e.symm), h1.off (off_set (.int .i64 x.d)) (fun e => HBX.out.2.1 e)⟩))
          have FINX := Lib.hid (fun (z' : Int) (hz' : pre ++ [x] <+: rl cur2 → z' = (lnS (pre ++ [x]) : Nat)) => (show KeepsFrom w4.heap.size W ((W.drew.setCell ⟨bn, 0, none⟩ (.int .i64 z')).setCell ⟨bl, 0, none⟩ (.int .i64 x.d)) ∧ KpX w4.heap.size (fun q => q = bn ∨ q = bl) W ((W.drew.setCell ⟨bn, 0, none⟩ (.int .i64 z')).setCell ⟨bl, 0, none⟩ (.int .i64 x.d)) ∧ ∃ z y, OnK w4 bn bl (rl cur2) (pre ++ [x]) z y ((W.drew.setCell ⟨bn, 0, none⟩ (.int .i64 z')).setCell ⟨bl, 0, none⟩ (.int .i64 x.d)) from by
            have k1 : KpX w4.heap.size (fun q => q = bn ∨ q = bl) W ((W.drew.setCell ⟨bn, 0, none⟩ (.int .i64 z')).setCell ⟨bl, 0, none⟩ (.int .i64 x.d)) := ((KpX.of_below (below_drew W)).trans (kpx_set (.inl rfl))).trans (kpx_set (.inr rfl))
            have c3 : Cb bn 3 #[.int .i64 z'] (W.drew.setCell ⟨bn, 0, none⟩ (.int .i64 z')) := heap_set _ (HII.out.c1.below (below_drew W))
            refine ⟨((keeps_off (S := fun _ => False) (Off.of_below (below_drew W)) (fun k h => h.elim)).from _).trans (keeps_set.trans keeps_set), k1, z', x.d, ⟨c3.off (off_set (.int .i64 x.d)) (fun e => HBX.out.2.2 e), heap_set _ (HK1.out z').2.1, fun h => ⟨hz' h, (lastD_app pre x).symm⟩, HII.out.kp.trans k1⟩⟩))
          have HQ5 := Lib.hid (show pre ++ [x] <+: rl cur2 → IntKind.i64.wrap (z + (x.n : Nat)) = (lnS (pre ++ [x]) : Nat) from fun hpre => by
            obtain ⟨q1, q2, q3, q4, q5⟩ := HGD.out pre x hpre
            have e1 := (HII.out.ok (pre_cut hpre)).1
            rw [wrap_few (by omega) (by omega), q5]
            omega)
          clear c1 c2 x0 x1 r1 r2
          refine drawnHIn_of_plain (S := fun W => Cb Bx 44 (crow x) W) (by kernel_rfl) (fun _ _ h => h) rfl ?_
          refine h_val (i := 1) (v := .pointer (some ⟨Bx, 0, none⟩)) rfl (by kernel_rfl) (by kernel_rfl) (by kernel_rfl) (fun _ _ _ h => h) (by rfl) (fun wz hS => ?_) K_0.out ?_
          · go_simp
          go_frame
          refine h_val (i := 2) (v := .int .i64 (x.n : Nat)) rfl (by kernel_rfl) (by kernel_rfl) (by kernel_rfl) (fun _ _ _ h => h) (by rfl) (fun wz hS => ?_) K_0.out ?_
          · have q : wz.cell? ⟨Bx, 0, none⟩ = some (.int .i64 (x.n : Nat)) := hS.cell 0
            go_simp
          go_frame
          refine h_val (i := 4) (v := .pointer (some ⟨Bx, 1, none⟩)) rfl (by kernel_rfl) (by kernel_rfl) (by kernel_rfl) (fun _ _ _ h => h) (by rfl) (fun wz hS => ?_) K_0.out ?_
          · go_simp
          go_frame
          refine h_val (i := 5) (v := .int .i64 x.d) rfl (by kernel_rfl) (by kernel_rfl) (by kernel_rfl) (fun _ _ _ h => h) (by rfl) (fun wz hS => ?_) K_0.out ?_
          · have q : wz.cell? ⟨Bx, 1, none⟩ = some (.int .i64 x.d) := hS.cell 1
            go_simp
          go_frame
          refine h_all1 (i := 0) (by kernel_rfl) ?_
          refine o_step rfl (by rfl) ?_
          refine wp_val (v := .int .i64 z) (by go_simp) ?_
          refine ⟨K_0.out, ?_⟩
          go_frame
          refine h_all1 (i := 3) (by kernel_rfl) ?_
          refine o_step rfl (by rfl) ?_
          refine wp_val (v := .int .i64 (IntKind.i64.wrap (z + (x.n : Nat)))) (by go_simp) ?_
          refine ⟨K_0.out, ?_⟩
          go_frame
          refine h_all1 (i := 6) (by kernel_rfl) ?_
          refine o_step rfl (by rfl) ?_
          refine wp_store1 (.tmp 7) (.tmp 87) rfl bn (IntKind.i64.wrap (z + (x.n : Nat))) z rfl rfl z1 zf1 ?_
          refine ⟨(HK1.out _).1, ?_⟩
          go_frame
          refine h_all1 (i := 7) (by kernel_rfl) ?_
          refine o_step rfl (by rfl) ?_
          refine wp_store1 (.tmp 8) (.tmp 89) rfl bl x.d y rfl rfl ((HK1.out _).2.1.cell 0) ((HK1.out _).2.1.frozen 0) ?_
          refine ⟨(HK1.out _).2.2, ?_⟩
          go_frame
          refine h_done (by kernel_rfl) ?_
          exact FINX.out (IntKind.i64.wrap (z + (x.n : Nat))) (HQ5.out)
        case stop =>
          rintro D c pre W hD hpr h hDW
          exact absurd hpr h
        case done =>
          rintro D ys W hD hS ⟨z, y, hI⟩ hDW
          obtain rfl : ys = rl cur2 := hS
          subst hT
          have hz := (hI.ok (List.prefix_rfl)).1
          rw [← flat_len, rl_flat] at hz
          subst hz
          have B25 := Lib.hid (show Below W2.heap.size W2 W from B24.out.trans (hI.kp.off.below (fun q hq => by
            have z1 := HZN.out
            have z2 := B24.out.size
            rcases hq with (rfl | rfl) | hq <;> omega) B24.out.size))
          have CN := Lib.hid (hI.c1.below (below_drew W))
          have R5 := Lib.hid (R2.out.below B25.out)
          have HL := Lib.hid (rv_len (R5.out.below (below_drew W)).fst)
          have HDW := Lib.hid (And.intro hD hDW)
          obtain ⟨nc, hnc⟩ : ∃ n, cur2.length = n := ⟨_, rfl⟩
          rw [hnc] at CN HL
          clear hI hD hDW hnc HGD CBR HRG HI0 HNN
          gi_wp2
          go_upto_region 17 with fail
          refine wp_nopanic ?_
          refine h_start (S := fun W' => Cb bn 3 #[.int .i64 (nc : Nat)] W') (by kernel_rfl) ?_
          refine h_val (i := 0) (v := .int .i64 (nc : Nat)) rfl (by kernel_rfl) (by kernel_rfl) (by kernel_rfl) (fun _ _ _ h => h) (by rfl) (fun wz hS => ?_) CN.out ?_
          · have q : wz.cell? ⟨bn, 0, none⟩ = some (.int .i64 (nc : Nat)) := hS.cell 0
            go_simp
          go_frame
          refine h_val (i := 1) (v := .pointer (some ⟨rb, 0, none⟩)) rfl (by kernel_rfl) (by kernel_rfl) (by kernel_rfl) (fun _ _ _ h => h) (by rfl) (fun wz hS => ?_) CN.out ?_
          · go_simp
          go_frame
          refine h_all1 (i := 2) (by kernel_rfl) ?_
          refine o_call (f := 15) (args := #[.pointer (some ⟨rb, 0, none⟩)]) rfl (by rfl) (by go_simp) ?_
          refine HL.out.mono ?_
          rintro e W6 ⟨rfl, b6⟩
          have B6 := Lib.hid b6
          clear b6
          refine ⟨_, rfl, CN.out.below B6.out, ?_⟩
          go_frame
          refine h_all1 (i := 3) (by kernel_rfl) ?_
          refine o_step rfl (by rfl) ?_
          refine wp_val (v := .bool false) (by go_simp) ?_
          refine ⟨CN.out.below B6.out, ?_⟩
          go_frame
          refine h_done (by kernel_rfl) ?_
          dsimp only
          go_wp2
          have B56 : Below W.heap.size W W6 := below_add (below_drew W) B6.out (below_drew (B := W.heap.size) W).size
          have B26 : Below W2.heap.size W2 W6 := below_add B25.out B56 B25.out.size
          have hDl := lt_of_heap HDW.out.2
          have zz := B24.out.size
          have old : ∀ E ∈ Ds, E < W2.heap.size ∧ W6.heap[E]? = some (.deferred (some [])) := fun E hE => by
            have h1 := (HI.out.ds E hE).2
            have h2 := (B1.out.block E (lt_of_heap h1)).trans h1
            have h3 := (X2.out.block E (lt_of_heap h2) (fun h => h.2 hE)).trans h2
            exact ⟨lt_of_heap h3, (B26.block E (lt_of_heap h3)).trans h3⟩
          refine ⟨⟨k + 1, cur2, D :: Ds, rfl, Lib.hid ?_⟩, ?_⟩
          · have hD1 := HDW.out.1
            have zw := BW2.out.size
            exact ⟨by omega, (R2.out.mono (fun q hq h => ⟨h.1, fun hh => by
              rcases List.mem_cons.1 hh with rfl | hh
              · omega
              · exact h.2 hh⟩)).below B26, HC2.out, BW2.out.trans (B26.mono BW2.out.size), List.nodup_cons.2 ⟨fun h => by
                have := (old D h).1
                omega, HI.out.nd⟩, fun E hE => by
                rcases List.mem_cons.1 hE with rfl | hE
                · exact ⟨by omega, (B56.block _ hDl).trans HDW.out.2⟩
                · exact ⟨(HI.out.ds E hE).1, (old E hE).2⟩⟩
          · simp [intOf]; omega
    · have g1 : decide ((100 : Int) < (nx : Int)) = true := decide_eq_true (by omega)
      go_wp2
      refine ⟨⟨k + 1, cur, Ds, rfl, Lib.hid ?_⟩, ?_⟩
      · exact ⟨by omega, R1.out, by have := HI.out.cnt; omega, BW1.out, HI.out.nd, fun D hD => ⟨(HI.out.ds D hD).1, (B1.out.block D (lt_of_heap (HI.out.ds D hD).2)).trans (HI.out.ds D hD).2⟩⟩
      · simp [intOf]; omega
  · obtain rfl : k = n0 := by have := HI.out.hk; omega
    have g9 : decide ((k : Int) < (k : Int)) = false := decide_eq_false (by omega)
    have hcq : cntR cur ≤ 6060 := by have := HI.out.cnt; omega
    have HCQ := Lib.hid hcq
    clear hlt i0 H0 N0 hcq
    go_upto_region 21 with fail
    refine with_worldT (fun W => Cb wr.heap.size 22 #[.slice none 0 0] W ∧ Below wr.heap.size wr W) ⟨cb_new wr _ _, below_alloc1 wr _⟩ fun W1 hW1 => ?_
    obtain ⟨ba, hba⟩ : ∃ b, wr.heap.size = b := ⟨_, rfl⟩
    have HBA := Lib.hid hba
    have CA := Lib.hid hW1.1
    have B1 := Lib.hid hW1.2
    clear hW1
    rw [hba] at CA ⊢
    clear hba
    go_wp2_with (go_at_call 11; refine (all_any (some ⟨rb, 0, none⟩) _).mono ?_; rintro e w2 ⟨bx, rfl, hc, hge, bb⟩; have CX := Lib.hid hc; have GE := Lib.hid hge; have BB := Lib.hid bb; clear hc hge bb)
    have B12 := Lib.hid (show Below wr.heap.size wr w2 from below_add B1.out BB.out B1.out.size)
    obtain ⟨S, T, hS, -, hS2, -, -⟩ := HI.out.r2.1
    have HRG := Lib.hid (show Rp S rb cur w2 ∧ (∀ q, S q → q < w2.heap.size ∧ ¬ q = ba) ∧ Cb bx 26 #[.pointer (some ⟨rb, 0, none⟩)] w2 ∧ (bx < w2.heap.size ∧ ¬ bx = ba) ∧ Go.Proofs.Ytoppgdhidnpibaa.wq cur ≤ 4000000000 ∧ ba < w2.heap.size from by
      have z1 := HBA.out
      have z2 := CA.out.lt
      have z3 := BB.out.size
      have z4 := GE.out
      refine ⟨hS.below B12.out, fun q hq => ?_, CX.out, ⟨CX.out.lt, by omega⟩, (HI.out.r2.fst).wq (by have := HCQ.out; omega), by omega⟩
      have := (hS2 q hq).2
      omega)
    have HI0 := Lib.hid (show ApK w2 ba [] (.slice none 0 0) w2 from ⟨CA.out.below BB.out, World.ownsRow_nil _ _ _ _, KpX.refl _ _ _⟩)
    have HNN := Lib.hid (show (rl cur).length ≤ 400000 from by have := HCQ.out; unfold cntR at this; omega)
    clear hS hS2 CX GE CA B1 BB
    refine (wpIn_wide (n := 9)).1 ?_
    refine act_gen fun T hT => ?_
    refine wpIn_rangeFunc_ownH (α := Ck) (encs := fun x => #[cvs x]) (Kp := KpX w2.heap.size (fun k => k = ba)) (S := fun ys => ys = rl cur) (Sp := fun pre => pre <+: rl cur) (N := (rl cur).length) (w0 := w2) rfl (by decide)
      (gf := 27) (lb := #[.pointer (some ⟨bx, 0, none⟩)]) (by rw [← hT]; rfl) trivial (enters_of Try.func27 (by kernel_rfl) rfl) ?seq (fun h k => h.trans k) ?kb (Below.refl _ _) (fun _ => rfl)
      (fun pre W => ∃ v, ApK w2 ba pre v W)
      (fun c _ W => False)
      (fun pre A B' row ⟨v, h⟩ hg hr => ⟨v, h.grown hg hr⟩)
      (fun c pre A B' row h hg hr => h.elim)
      ⟨_, HI0.out⟩
      (fun x a' W => ∃ Bx, w2.heap.size ≤ Bx ∧ Cb Bx 44 (crow x) W ∧ a' = { tmps := (T.tmps.setIfInBounds 97 (cvs x)).setIfInBounds 11 (.pointer (some ⟨Bx, 0, none⟩)), defers := [] })
      (fun x a' _ X Y row hs hg hr => by obtain ⟨Bx, h1, h2, h3⟩ := hs; exact ⟨Bx, h1, cb_grown h2 hg (fun r e => (hr r e).2), h3⟩)
      ?assign ?body ?done ?stop
    case seq =>
      intro ln J Jx W hW hJ hJx hY h0
      exact all1_sp (n0 := w2.heap.size) (X := fun k => k = ba) (S := S) (rb := rb) (bx := bx) (l := cur) 8 ln (by decide) J Jx (fun pre A A' hA hb => hJ pre A A' none hA ⟨hb.os, hb.tape, hb.output, hb.size, fun k hk _ => hb.block k hk⟩ (fun r e => by cases e)) HRG.out.2.1 HRG.out.2.2.2.1 hY W (HRG.out.2.2.1.below hW) (HRG.out.1.below hW) HRG.out.2.2.2.2.1 h0
    case kb =>
      intro W k o1 o2 hk ho h1 h2
      exact KpX.putObj (o := o1) W o2 hk
    case assign =>
      rintro ln pre x W K ⟨v, hI⟩ hK
      subst hT
      have hxl := xc_size x
      have V4 := Lib.hid (cb_new W 44 czr)
      refine regionIn_of_plain (fun _ _ h => h) rfl ?_
      go_wp2_with (refine wpList_store_row rfl 44 (.tmp 11) (.tmp 97) rfl W.heap.size (crow x) rfl rfl _ _ V4.out (xinfo hxl) (by rw [hxl]; exact xz_size) (crow_one _) ?_)
      have hb : Below W.heap.size W ((W.alloc (.cells czr 44)).setRow W.heap.size (crow x)) := below_row ((Below.refl _ W).alloc (Nat.le_refl _) _) (Nat.le_refl _)
      exact hK _ _ ((keeps_off (S := fun _ => False) (Off.of_below hb) (fun k h => h.elim)).from _) (KpX.of_below hb) ⟨v, hI.below hb⟩ ⟨W.heap.size, hI.kp.size, V4.out.set _, rfl⟩
    case body =>
      rintro ln pre x a' W hln ⟨r, hr⟩ ⟨v, hI⟩ ⟨Bx, hBx, hcx, rfl⟩ hlt
      subst hT
      obtain ⟨va, vc, rfl, -, -⟩ := own_shape hI.own
      obtain ⟨ie, hie, hz, hs, hby⟩ := info_sp
      have hpl : pre.length ≤ 400000 := by have := HNN.out; omega
      have FIN := Lib.hid (fun (w5 : World) (hb : Below W.heap.size W w5) (g6 cap6 : Nat) (w6 : World) => apk_next (w6 := w6) hI x HRG.out.2.2.2.2.2 hb g6 cap6)
      obtain ⟨cx, hcx2⟩ : ∃ cx, crow x = cx := ⟨_, rfl⟩
      have SX := Lib.hid (show cx.size = 2 by rw [← hcx2]; rfl)
      have HBS := Lib.hid (built_one 44 ie hie K_X.z hz 2 hs (by decide) (by decide) (crow x).toList rfl)
      rw [show (crow x).toList.toArray = crow x from rfl] at HBS
      have hones : ∀ v ∈ (crow x).toList, v.oneCell' = true := fun v hv => Array.all_eq_true_iff_forall_mem.1 (crow_one x) v (by simpa using hv)
      have hrl : (crow x).toList.length = 1 * 2 := rfl
      rw [hcx2] at HBS FIN hcx hones hrl
      have V5 := Lib.hid hcx
      have c0 : W.cell? ⟨ba, 0, none⟩ = some (.slice va pre.length vc) := hI.c.cell 0
      have S6 := Lib.hid (show (W.alloc (.cells cx 44)).ownsRow w2.heap.size 44 2 (.slice va pre.length vc) pre.length (Go.Proofs.Ytoppgdhidnpibaa.fl CkC pre) from owns_kept hI.own (fun g hg => heap_alloc_old W _ (own_lt7 hI.own hg)))
      have HNB := Lib.hid (heap_alloc_new W (.cells cx 44))
      have hzs : K_X.z.cells.size = 2 := rfl
      have hbs : w2.heap.size ≤ (W.alloc (.cells cx 44)).heap.size := by rw [World.size_alloc]; have := hI.kp.size; omega
      have hmx : pre.length + 1 ≤ maxLen := by unfold maxLen; omega
      have hmy : (pre.length + 1) * 16 ≤ 140737488355328 := by omega
      have CL := Lib.hid (hI.c.alloc (.cells cx 44))
      have hob : ∀ g, (Value.slice va pre.length vc).ownBlock = some g → w2.heap.size ≤ g := fun g hg => own_base hI.own hg
      have hblt := Lib.hid HRG.out.2.2.2.2.2
      have HBW := Lib.hid (below_alloc1 W (.cells cx 44))
      clear hI hcx hlt
      refine wpIn_block ?_
      refine regionIn_of_plain (fun _ _ h => h) rfl ?_
      rw [show cvs x = .agg cx by unfold cvs; rw [hcx2]]
      clear hcx2
      try simp only [List.setIfInBounds_toArray, List.set_cons_succ, List.set_cons_zero]
      go_wp2_with (first
        | (refine wpList_load_roww 44 (.tmp 11) rfl Bx rfl (by rfl) _ _ _ _ V5.out Try.underlying44 rfl (xinfo SX.out) ?_)
        | (refine wpList_buildSliceL rfl 22 44 1 _ rfl W.heap.size rfl _ rfl Try.underlying22 [(0, .agg cx)] rfl cx HBS.out ?_)
        | (at_builtin; refine wpList_append_lies _ rfl (.tmp 98) (.tmp 100) 22 rfl w2.heap.size 44 ie K_X.z 2 16 Try.underlying22 hie hz hs hby hzs (by decide) (.slice va pre.length vc) pre.length (Go.Proofs.Ytoppgdhidnpibaa.fl CkC pre) rfl S6.out ⟨W.heap.size, 0, none⟩ 1 1 cx.toList rfl hrl (World.news_of_block HNB.out) hones (by decide) hmx hmy hbs _ rfl ?_; intro g6 cap6 w6 ho6 hg6 ha6 hl6; have C6 := (hg6.block ba CL.out.lt (fun e => by have := hob _ e.symm; have := hblt.out; omega)).trans CL.out; have c6 : w6.cell? ⟨ba, 0, none⟩ = some (.slice va pre.length vc) := Cb.cell C6 0; have f6 := Cb.frozen C6 0; have HO6 := Lib.hid ho6; have HG6 := Lib.hid hg6; have HL6 := Lib.hid hl6; have HC6 := Lib.hid C6; clear ho6 hg6 ha6 hl6 C6))
      exact FIN.out _ HBW.out _ _ _ HO6.out HG6.out HL6.out HC6.out
    case stop =>
      rintro D c pre W hD _ h hDW
      exact h.elim
    case done =>
      rintro D ys W hD hS ⟨v, hI⟩ hDW
      obtain rfl : ys = rl cur := hS
      subst hT
      have HX2 := Lib.hid (show Below wr.heap.size wr W ∧ ba < W.heap.size ∧ w2.heap.size ≤ D ∧ D < W.heap.size ∧ w2.heap.size ≤ W.heap.size ∧ ba < w2.heap.size from by
        have z1 := HBA.out
        have z2 := B12.out.size
        have z3 := hI.kp.size
        have z4 := HRG.out.2.2.2.2.2
        refine ⟨B12.out.trans (hI.kp.off.below (fun q hq => ?_) B12.out.size), by omega, hD, lt_of_heap hDW, z3, z4⟩
        rcases hq with rfl | hq <;> omega)
      have RR := Lib.hid (show R2X (fun q => (W0.heap.size ≤ q ∧ q ∉ Ds) ∧ ¬ (ba ≤ q ∧ q < W.heap.size)) rb cur sb [] W from (HI.out.r2.mono (fun q hq h => ⟨h, fun hh => by have := HBA.out; omega⟩)).below HX2.out.1)
      have PF := Lib.hid (And.intro hI.c (And.intro hI.own hDW))
      obtain ⟨va, vc, rfl, -, -⟩ := own_shape hI.own
      have HKEEP := Lib.hid (fun (wq : World) (hq : Off (fun q => (W0.heap.size ≤ q ∧ q ∉ Ds) ∧ ¬ (ba ≤ q ∧ q < W.heap.size)) W wq) => (show Cb ba 22 #[.slice va (rl cur).length vc] wq ∧ Row CkC wq (.slice va (rl cur).length vc) (rl cur) ∧ (∀ E ∈ D :: Ds, w.heap.size ≤ E ∧ E ≠ br ∧ wq.heap[E]? = some (.deferred (some []))) ∧ Cb br 4 #[.bool false] wq ∧ Below w.heap.size w wq ∧ W.heap.size ≤ wq.heap.size from by
        obtain ⟨p1, p2, p3⟩ := PF.out
        obtain ⟨x1, x2, x3, x4, x5, x6⟩ := HX2.out
        have z0 := B0.out.size
        have z1 := HBA.out
        have z2 := C0.out.lt
        have z3 := HI.out.bel.size
        have hb0 : Below W0.heap.size W0 W := HI.out.bel.trans (x1.mono z3)
        refine ⟨p1.off hq (fun h => h.2 ⟨Nat.le_refl _, x2⟩), (Row.of_owns (C := CkC) (owns_kept p2 (fun g hg => hq.block g (own_lt7 p2 hg) (fun h => h.2 ⟨by have := own_base p2 hg; omega, own_lt7 p2 hg⟩)))).1, fun E hE => ?_, (C0.out.below hb0).off hq (fun h => by have := h.1.1; omega), below_add B0.out (hb0.trans (hq.below (fun q h => h.1.1) hb0.size)) z0, hq.size⟩
        rcases List.mem_cons.1 hE with rfl | hE
        · exact ⟨by omega, by omega, (hq.block _ x4 (fun h => h.2 ⟨by omega, x4⟩)).trans p3⟩
        · have e1 := HI.out.ds E hE
          have e2 := lt_of_heap e1.2
          have e3 := (x1.block E e2).trans e1.2
          exact ⟨by omega, by omega, (hq.block E (lt_of_heap e3) (fun h => h.1.2 hE)).trans e3⟩))
      have HND := Lib.hid (show (D :: Ds).Nodup from List.nodup_cons.2 ⟨fun h => by
        have := lt_of_heap (HI.out.ds D h).2
        have := HX2.out
        have := HBA.out
        omega, HI.out.nd⟩)
      have HOK := Lib.hid HI.out.r2.2.1
      have HSZ := Lib.hid (show ∀ q, W.heap.size ≤ q → (W0.heap.size ≤ q ∧ q ∉ Ds) ∧ ¬ (ba ≤ q ∧ q < W.heap.size) from fun q hq => by
        have z3 := HI.out.bel.size
        have x1 := HX2.out
        have z1 := HBA.out
        have z4 := x1.1.size
        refine ⟨⟨by omega, fun h => ?_⟩, by omega⟩
        have := lt_of_heap (HI.out.ds q h).2
        omega)
      obtain ⟨X, hX⟩ : ∃ X : Nat → Prop, (fun q => (W0.heap.size ≤ q ∧ q ∉ Ds) ∧ ¬ (ba ≤ q ∧ q < W.heap.size)) = X := ⟨_, rfl⟩
      have HSX : Hid (∀ q, W.heap.size ≤ q → X q) := Lib.hid (by rw [← hX]; exact HSZ.out)
      rw [hX] at RR HKEEP
      clear hX HSZ hI hD hDW PF HRG HI0 HI HX2 B12
      obtain ⟨P, hP⟩ : ∃ P, rl cur = P := ⟨_, rfl⟩
      have HP := Lib.hid hP
      rw [hP] at HKEEP HNN
      try rw [hP]
      clear hP
      have hpn := HNN.out
      have ca : W.cell? ⟨ba, 0, none⟩ = some (.slice va P.length vc) := (HKEEP.out _ (Off.refl _ _)).1.cell 0
      gi_wp2
      go_wp2
      go_loopw [12] (fun s wq => ∃ m : Nat, m ≤ P.length ∧ s = .int .i64 ((m : Int) - 1) ∧ Hid (R2X X sb (flat (P.drop m)) rb cur wq ∧ Off X W wq)) (fun s _ => (intOf s + 1).toNat)
      case atStart => exact ⟨P.length, Nat.le_refl _, rfl, Lib.hid ⟨by rw [List.drop_length]; exact RR.out.swap, Off.refl _ _⟩⟩
      case round =>
        obtain ⟨m, hm, rfl, HQ⟩ := hrel
        by_cases hlm : 0 < m
        · obtain ⟨m', rfl⟩ : ∃ m', m = m' + 1 := ⟨m - 1, by omega⟩
          have e1 : (((m' + 1 : Nat) : Int) - 1) = (m' : Int) := by omega
          have hlt : m' < P.length := by omega
          have j0 : (0 : Int) ≤ (m' : Int) := by omega
          have j1 : (m' : Int) < (P.length : Int) := by omega
          have g8 : decide ((0 : Int) ≤ (m' : Int)) = true := decide_eq_true j0
          obtain ⟨k1, k2, k3, k4, k5, k6⟩ := HKEEP.out _ HQ.out.2
          have ca : wr.cell? ⟨ba, 0, none⟩ = some (.slice va P.length vc) := k1.cell 0
          obtain ⟨g, off, rfl, -, -, -, -, -, -⟩ := Row.opened k2 (by omega)
          obtain ⟨x0, x1⟩ := ck_at k2 hlt
          have HF := half_facts (l := cur) HOK.out.2 HOK.out.1 (m := m') (x := P[m']) (by rw [HP.out]; exact List.getElem?_eq_getElem hlt) (m' + 1) rfl
          rw [HP.out] at HF
          obtain ⟨A, f1, f2, f3, f4, f5, f6, f7, f10⟩ := HF
          obtain ⟨x, hx⟩ : ∃ x, P[m'] = x := ⟨_, rfl⟩
          rw [hx] at x0 x1 f1 f2 f3 f4 f5 f10
          clear hx
          obtain ⟨xn, xd⟩ := x
          dsimp only at x0 x1 f1 f2 f3 f4 f5 f10
          have hle2 : xn / 2 ≤ xn := by omega
          obtain ⟨n2, hn2⟩ : ∃ n, xn / 2 = n := ⟨_, rfl⟩
          rw [hn2] at f1 f2 f3 f4 f5 hle2
          clear hn2
          obtain ⟨n3, hn3⟩ : ∃ n, xn - n2 = n := ⟨_, rfl⟩
          rw [hn3] at f4 f5
          have f8 : (xn : Int) - (n2 : Int) = (n3 : Int) := by omega
          clear hn3
          have HR2 := Lib.hid (show R2X (fun q => X q ∧ q ≠ wr.heap.size) sb (flat (P.drop (m' + 1))) rb cur wr from HQ.out.1.mono (fun q hq h => ⟨h, by omega⟩))
          have HOQ := Lib.hid HQ.out.2
          have HF2 := Lib.hid (And.intro f2 (And.intro f3 (And.intro f4 (And.intro f5 (And.intro f6 f7)))))
          clear f2 f3 f4 f5 f6 f7 k1 k2 k3 k4 k5 k6 HQ
          have f9 : (0 : Int) ≤ (n3 : Int) := by omega
          rw [e1]
          go_upto_region 28 with fail
          refine with_worldT (fun w5 => Cb wr.heap.size 44 #[.int .i64 (xn : Nat), .int .i64 xd] w5 ∧ Below wr.heap.size wr w5) ⟨cb_new wr _ _, below_alloc1 wr _⟩ fun w5 hw5 => ?_
          have CB := Lib.hid hw5.1
          have BW5 := Lib.hid hw5.2
          have HXU := Lib.hid (show ∀ q, w5.heap.size ≤ q → X q ∧ q ≠ wr.heap.size from fun q hq => by
            have z1 := CB.out.lt
            have z2 := HOQ.out.size
            exact ⟨HSX.out q (by omega), by omega⟩)
          obtain ⟨bb5, hb5⟩ : ∃ b, wr.heap.size = b := ⟨_, rfl⟩
          rw [hb5] at CB HR2 HXU
          try rw [hb5]
          clear hw5 x0 x1 hb5 ca
          have y0 : w5.cell? ⟨bb5, 0, none⟩ = some (.int .i64 (xn : Nat)) := CB.out.cell 0
          have y1 : w5.cell? ⟨bb5, 1, none⟩ = some (.int .i64 xd) := CB.out.cell 1
          have S1 := Lib.hid (r2x_splice (HR2.out.below BW5.out) (below_alloc1 w5 (.cells #[.int .i64 (n2 : Nat), .int .i64 xd] 44)) (fun q hq => HXU.out q (by rw [World.size_alloc] at hq; omega)) (xs := [⟨(n2 : Nat), xd⟩]) (by have := HF2.out.2.2.2.2.1; have := HCQ.out; show _ + 1 ≤ 20000; omega) 0 0 _ (rowX_built (z := w5.heap.size) (w := w5) [⟨(n2 : Nat), xd⟩] rfl (by show 1 ≤ 1000; decide) (Nat.le_refl _)))
          rw [HF2.out.1, HF2.out.2.1] at S1
          have S2 := Lib.hid (fun (w6 : World) (h : R2X (fun q => X q ∧ q ≠ bb5) sb A rb cur w6) (hs : w5.heap.size ≤ w6.heap.size) => r2x_splice h (below_alloc1 w6 (.cells #[.int .i64 (n3 : Nat), .int .i64 xd] 44)) (fun q hq => HXU.out q (by rw [World.size_alloc] at hq; omega)) (xs := [⟨(n3 : Nat), xd⟩]) (by have := HF2.out.2.2.2.2.2; have := HCQ.out; show _ + 1 ≤ 20000; omega) 0 0 _ (rowX_built (z := w6.heap.size) (w := w6) [⟨(n3 : Nat), xd⟩] rfl (by show 1 ≤ 1000; decide) (Nat.le_refl _)))
          rw [HF2.out.2.2.1, HF2.out.2.2.2.1] at S2
          have HCX := Lib.hid (fun (w6 : World) (ho : Off (fun q => X q ∧ q ≠ bb5) (w5.alloc (.cells #[.int .i64 (n2 : Nat), .int .i64 xd] 44)) w6) => (show w6.cell? ⟨bb5, 0, none⟩ = some (.int .i64 (xn : Nat)) ∧ w6.cell? ⟨bb5, 1, none⟩ = some (.int .i64 xd) from by
            have h1 := (CB.out.alloc (.cells #[.int .i64 (n2 : Nat), .int .i64 xd] 44)).off ho (fun h => h.2 rfl)
            exact ⟨h1.cell 0, h1.cell 1⟩))
          have HOX := Lib.hid (show Off X W w5 from HOQ.out.seq (Off.of_below BW5.out))
          clear HR2 HF2 CB BW5 HOQ
          go_wp2_with (first
            | (go_at_call 12; refine S1.out.mono ?_; rintro e w6 ⟨rfl, rr, oo⟩; have R6 := Lib.hid rr; have O6 := Lib.hid ((HOX.out.seq (Off.of_below (below_alloc1 w5 (.cells #[.int .i64 (n2 : Nat), .int .i64 xd] 44)))).seq (oo.mono (fun q h => h.1))); have hz6 := (Nat.le_trans (below_alloc1 w5 (.cells #[.int .i64 (n2 : Nat), .int .i64 xd] 44)).size oo.size); obtain ⟨y2, y3⟩ := HCX.out w6 oo; have S2' := Lib.hid (S2.out w6 R6.out hz6); clear rr oo S1 S2 hz6)
            | (go_at_call 12; refine S2'.out.mono ?_; rintro e w7 ⟨rfl, rr, oo⟩; have R7 := Lib.hid rr; have O7 := Lib.hid ((O6.out.seq (Off.of_below (below_alloc1 w6 (.cells #[.int .i64 (n3 : Nat), .int .i64 xd] 44)))).seq (oo.mono (fun q h => h.1))); clear rr oo S2'))
          go_roundw
          case rel => exact ⟨m', by omega, by first | rfl | go_num, Lib.hid ⟨R7.out.mono (fun q hq h => h.1), O7.out⟩⟩
          case measure => simp [intOf]
        · obtain rfl : m = 0 := by omega
          have g8 : decide ((0 : Int) ≤ -1) = false := by decide
          have R0 := Lib.hid (show R2X X sb cur rb cur wr from by have := HQ.out.1; rw [List.drop_zero, ← HP.out, rl_flat] at this; exact this)
          have O0 := Lib.hid HQ.out.2
          clear HQ hlm hm
          rw [show (((0 : Nat) : Int) - 1) = -1 from rfl]
          go_upto_region 31 with fail
          refine with_worldT (fun W4 => Cb wr.heap.size 3 #[.int .i64 0] W4 ∧ Below wr.heap.size wr W4) ⟨cb_new wr _ _, below_alloc1 wr _⟩ fun W4 hW4 => ?_
          obtain ⟨bn, hbn⟩ : ∃ b, wr.heap.size = b := ⟨_, rfl⟩
          have HBN := Lib.hid hbn
          have CN := Lib.hid hW4.1
          have B4 := Lib.hid hW4.2
          clear hW4
          rw [hbn] at CN ⊢
          clear hbn
          go_wp2_with (go_at_call 11; refine (all_any (some ⟨sb, 0, none⟩) _).mono ?_; rintro e w5 ⟨bx2, rfl, hc, hge, bb⟩; have CX := Lib.hid hc; have GE := Lib.hid hge; have B5 := Lib.hid bb; clear hc hge bb)
          have BW5 := Lib.hid (show Below wr.heap.size wr w5 from below_add B4.out B5.out B4.out.size)
          have O5 := Lib.hid (show Off X W w5 from O0.out.seq (Off.of_below BW5.out))
          obtain ⟨S3, T3, hS, -, hS2, -, -⟩ := R0.out.1
          have ZL := Lib.hid (show bn < w5.heap.size ∧ W.heap.size ≤ bn ∧ ba < W.heap.size from ⟨by have := CN.out.lt; have := B5.out.size; omega, by rw [← HBN.out]; exact O0.out.size, (HKEEP.out _ (Off.refl _ _)).1.lt⟩)
          have HRG := Lib.hid (show Rp S3 sb cur w5 ∧ (∀ q, S3 q → q < w5.heap.size ∧ ¬ q = bn) ∧ Cb bx2 26 #[.pointer (some ⟨sb, 0, none⟩)] w5 ∧ (bx2 < w5.heap.size ∧ ¬ bx2 = bn) ∧ Go.Proofs.Ytoppgdhidnpibaa.wq cur ≤ 4000000000 from by
            have z1 := HBN.out
            have z2 := CN.out.lt
            have z3 := B5.out.size
            have z4 := GE.out
            refine ⟨hS.below BW5.out, fun q hq => ?_, CX.out, ⟨CX.out.lt, by omega⟩, R0.out.fst.wq (by have := HCQ.out; omega)⟩
            have := (hS2 q hq).2
            omega)
          have HI3 := Lib.hid (show CnK w5 bn P [] 0 w5 from ⟨CN.out.below B5.out, Nat.zero_le _, fun _ => rfl, KpX.refl _ _ _⟩)
          have HROW := Lib.hid (fun (W8 : World) (kp : KpX w5.heap.size (fun q => q = bn) w5 W8) => (show Cb ba 22 #[.slice va P.length vc] W8 ∧ Cb br 4 #[.bool false] W8 ∧ ∀ j (hj : j < P.length), ∃ g off, va = some ⟨g, off, none⟩ ∧ W8.cell? ⟨g, off + j * 2, none⟩ = some (.int .i64 (P[j].n : Nat)) ∧ W8.cell? ⟨g, off + j * 2 + 1, none⟩ = some (.int .i64 P[j].d) from by
            obtain ⟨k1, k2, k3, k4, k5, k6⟩ := HKEEP.out _ O5.out
            obtain ⟨q1, q2, q3, q4, q5, q6⟩ := HKEEP.out _ (Off.refl X W)
            obtain ⟨z1, z2, z3⟩ := ZL.out
            have zb := q4.lt
            refine ⟨kp.cb k1 ⟨by omega, by omega⟩, kp.cb k4 ⟨by omega, by omega⟩, fun j hj => ?_⟩
            obtain ⟨g, off, hva, -, -, -, -, -, -⟩ := Row.opened k2 (by omega)
            subst hva
            obtain ⟨x0, x1⟩ := ck_at k2 hj
            have y0 : g < W.heap.size := World.block_lt_of_cell? _ _ (ck_at q2 hj).1
            have hh := kp.keep g (show g < w5.heap.size by omega) (by omega) (show ¬ g = bn by omega)
            refine ⟨g, off, rfl, ?_, ?_⟩
            · rw [← x0]; simp only [World.cell?, hh]
            · rw [← x1]; simp only [World.cell?, hh]))
          clear hS hS2 CX GE CN B4 B5 RR
          refine (wpIn_wide (n := 9)).1 ?_
          refine act_gen fun T9 hT => ?_
          refine wpIn_rangeFunc_ownH (α := Ck) (encs := fun x => #[cvs x]) (Kp := KpX w5.heap.size (fun q => q = bn)) (S := fun ys => ys = rl cur) (Sp := fun pre => pre <+: rl cur) (N := (rl cur).length) (w0 := w5) rfl (by decide)
            (gf := 27) (lb := #[.pointer (some ⟨bx2, 0, none⟩)]) (by rw [← hT]; rfl) trivial (enters_of Try.func27 (by kernel_rfl) rfl) ?seq (fun h k => h.trans k) ?kb (Below.refl _ _) (fun _ => rfl)
            (fun pre W => ∃ z, CnK w5 bn P pre z W)
            (fun c pre W => ¬ pre <+: P)
            (fun pre A B' row ⟨z, h⟩ hg hr => ⟨z, h.grown hg hr⟩)
            (fun c pre A B' row h hg hr => h)
            ⟨_, HI3.out⟩
            (fun x a' W => ∃ Bx, w5.heap.size ≤ Bx ∧ Cb Bx 44 (crow x) W ∧ a' = { tmps := (T9.tmps.setIfInBounds 140 (cvs x)).setIfInBounds 15 (.pointer (some ⟨Bx, 0, none⟩)), defers := [] })
            (fun x a' _ X Y row hs hg hr => by obtain ⟨Bx, h1, h2, h3⟩ := hs; exact ⟨Bx, h1, cb_grown h2 hg (fun r e => (hr r e).2), h3⟩)
            ?assign ?body ?done ?stop
          case seq =>
            intro ln J Jx W hW hJ hJx hY h0
            exact all1_sp (n0 := w5.heap.size) (X := fun q => q = bn) (S := S3) (rb := sb) (bx := bx2) (l := cur) 8 ln (by decide) J Jx (fun pre A A' hA hb => hJ pre A A' none hA ⟨hb.os, hb.tape, hb.output, hb.size, fun k hk _ => hb.block k hk⟩ (fun r e => by cases e)) HRG.out.2.1 HRG.out.2.2.2.1 hY W (HRG.out.2.2.1.below hW) (HRG.out.1.below hW) HRG.out.2.2.2.2 h0
          case kb =>
            intro W k o1 o2 hk ho h1 h2
            exact KpX.putObj (o := o1) W o2 hk
          case assign =>
            rintro ln pre x W8 K ⟨z, hI⟩ hK
            subst hT
            have hxl := xc_size x
            have V4 := Lib.hid (cb_new W8 44 czr)
            refine regionIn_of_plain (fun _ _ h => h) rfl ?_
            go_wp2_with (refine wpList_store_row rfl 44 (.tmp 15) (.tmp 140) rfl W8.heap.size (crow x) rfl rfl _ _ V4.out (xinfo hxl) (by rw [hxl]; exact xz_size) (crow_one _) ?_)
            have hb : Below W8.heap.size W8 ((W8.alloc (.cells czr 44)).setRow W8.heap.size (crow x)) := below_row ((Below.refl _ W8).alloc (Nat.le_refl _) _) (Nat.le_refl _)
            exact hK _ _ ((keeps_off (S := fun _ => False) (Off.of_below hb) (fun k h => h.elim)).from _) (KpX.of_below hb) ⟨z, hI.below hb⟩ ⟨W8.heap.size, hI.kp.size, V4.out.set _, rfl⟩
          case stop =>
            rintro D3 c pre W8 hD hpr h hDW
            rw [HP.out] at hpr
            exact absurd hpr h
          case body =>
            rintro ln pre x a' W8 hln ⟨r, hr⟩ ⟨z, hI⟩ ⟨Bx, hBx, hcx, rfl⟩ hlt
            subst hT
            have c1 : W8.cell? ⟨bn, 0, none⟩ = some (.int .i64 (z : Nat)) := hI.c1.cell 0
            have x0 : W8.cell? ⟨Bx, 0, none⟩ = some (.int .i64 (x.n : Nat)) := hcx.cell 0
            have x1 : W8.cell? ⟨Bx, 1, none⟩ = some (.int .i64 x.d) := hcx.cell 1
            obtain ⟨hr1, hr2, hr3⟩ := HROW.out _ hI.kp
            have ca : W8.cell? ⟨ba, 0, none⟩ = some (.slice va P.length vc) := hr1.cell 0
            have K_0 := Lib.hid (show Below W8.heap.size W8 W8.drew from below_drew W8)
            have r1 : W8.drew.cell? ⟨br, 0, none⟩ = some (.bool false) := (hr2.below K_0.out).cell 0
            have r2 := (hr2.below K_0.out).frozen 0
            have n1 : W8.drew.cell? ⟨bn, 0, none⟩ = some (.int .i64 (z : Nat)) := (hI.c1.below K_0.out).cell 0
            have n2 := (hI.c1.below K_0.out).frozen 0
            have KDR := Lib.hid (show KeepsFrom w5.heap.size W8 W8.drew from (keeps_off (S := fun _ => False) (Off.of_below K_0.out) (fun k h => h.elim)).from _)
            have HII := Lib.hid hI
            have hzl := hI.le
            have z0 : (0 : Int) ≤ (z : Nat) := by omega
            clear hcx hr1 hr2 hlt
            by_cases hzp : z < P.length
            · obtain ⟨g, off, rfl, p0, p1⟩ := hr3 z hzp
              have g5 : decide ((P.length : Int) ≤ (z : Int)) = false := decide_eq_false (by omega)
              have z1 : (z : Int) < (P.length : Int) := by omega
              have HPZ := Lib.hid (show P[z]? = some P[z] from List.getElem?_eq_getElem hzp)
              obtain ⟨p, hp⟩ : ∃ p, P[z] = p := ⟨_, rfl⟩
              rw [hp] at p0 p1 HPZ
              clear hp hr3 hI
              by_cases hxp : x = p
              · have FIN := Lib.hid (show KeepsFrom w5.heap.size W8 (W8.drew.setCell ⟨bn, 0, none⟩ (.int .i64 ((z + 1 : Nat) : Int))) ∧ KpX w5.heap.size (fun q => q = bn) W8 (W8.drew.setCell ⟨bn, 0, none⟩ (.int .i64 ((z + 1 : Nat) : Int))) ∧ ∃ z', CnK w5 bn P (pre ++ [x]) z' (W8.drew.setCell ⟨bn, 0, none⟩ (.int .i64 ((z + 1 : Nat) : Int))) from by
                  have kk : KpX w5.heap.size (fun q => q = bn) W8 (W8.drew.setCell ⟨bn, 0, none⟩ (.int .i64 ((z + 1 : Nat) : Int))) := (KpX.of_below K_0.out).trans (kpx_set rfl)
                  exact ⟨KDR.out.trans keeps_set, kk, z + 1, heap_set _ (HII.out.c1.below K_0.out), hzp, fun h => by rw [List.length_append, HII.out.ok (pre_cut h)]; rfl, HII.out.kp.trans kk⟩)
                have hq := fun w => span_neq x p w
                rw [(ckB_iff _ _).2 hxp] at hq
                unfold cvs crow at hq
                have e9 : ((z + 1 : Nat) : Int) = (z : Int) + 1 := by omega
                rw [e9] at FIN
                clear hxp HPZ HII
                refine wpIn_block ?_
                gi_wp2
                refine drawnHIn_of_plain (S := fun W' => Below W8.heap.size W8 W') (by kernel_rfl) (fun _ _ h => h) rfl ?_
                refine h_val (i := 0) (v := .int .i64 (z : Nat)) rfl (by kernel_rfl) (by kernel_rfl) (by kernel_rfl) (fun _ _ _ h => h) (by rfl) (fun wz hS => ?_) K_0.out ?_
                · have q1 := (hS.cell (World.block_lt_of_cell? _ _ c1)).trans c1; go_simp
                go_frame
                refine h_val (i := 1) (v := .slice (some ⟨g, off, none⟩) P.length vc) rfl (by kernel_rfl) (by kernel_rfl) (by kernel_rfl) (fun _ _ _ h => h) (by rfl) (fun wz hS => ?_) K_0.out ?_
                · have q1 := (hS.cell (World.block_lt_of_cell? _ _ ca)).trans ca; go_simp
                go_frame
                refine h_val (i := 2) (v := .int .i64 (P.length : Nat)) rfl (by kernel_rfl) (by kernel_rfl) (by kernel_rfl) (fun _ _ _ h => h) (by rfl) (fun wz hS => ?_) K_0.out ?_
                · go_simp
                go_frame
                refine h_val (i := 3) (v := .bool false) rfl (by kernel_rfl) (by kernel_rfl) (by kernel_rfl) (fun _ _ _ h => h) (by rfl) (fun wz hS => ?_) K_0.out ?_
                · go_simp
                go_frame
                refine h_val (i := 4) (v := .bool false) rfl (by kernel_rfl) (by kernel_rfl) (by kernel_rfl) (fun _ _ _ h => h) (by rfl) (fun wz hS => ?_) K_0.out ?_
                · go_simp
                go_frame
                refine h_val (i := 5) (v := .agg #[.int .i64 (x.n : Nat), .int .i64 x.d]) rfl (by kernel_rfl) (by kernel_rfl) (by kernel_rfl) (fun _ _ _ h => h) (by rfl) (fun wz hS => ?_) K_0.out ?_
                · have q1 := (hS.cell (World.block_lt_of_cell? _ _ x0)).trans x0; have q2 := (hS.cell (World.block_lt_of_cell? _ _ x1)).trans x1; go_simp
                go_frame
                refine h_val (i := 6) (v := .slice (some ⟨g, off, none⟩) P.length vc) rfl (by kernel_rfl) (by kernel_rfl) (by kernel_rfl) (fun _ _ _ h => h) (by rfl) (fun wz hS => ?_) K_0.out ?_
                · have q1 := (hS.cell (World.block_lt_of_cell? _ _ ca)).trans ca; go_simp
                go_frame
                refine h_val (i := 7) (v := .int .i64 (z : Nat)) rfl (by kernel_rfl) (by kernel_rfl) (by kernel_rfl) (fun _ _ _ h => h) (by rfl) (fun wz hS => ?_) K_0.out ?_
                · have q1 := (hS.cell (World.block_lt_of_cell? _ _ c1)).trans c1; go_simp
                go_frame
                refine h_val (i := 8) (v := .pointer (some ⟨g, off + z * 2, none⟩)) rfl (by kernel_rfl) (by kernel_rfl) (by kernel_rfl) (fun _ _ _ h => h) (by rfl) (fun wz hS => ?_) K_0.out ?_
                · go_simp
                go_frame
                refine h_val (i := 9) (v := .agg #[.int .i64 (p.n : Nat), .int .i64 p.d]) rfl (by kernel_rfl) (by kernel_rfl) (by kernel_rfl) (fun _ _ _ h => h) (by rfl) (fun wz hS => ?_) K_0.out ?_
                · have q1 := (hS.cell (World.block_lt_of_cell? _ _ p0)).trans p0; have q2 := (hS.cell (World.block_lt_of_cell? _ _ p1)).trans p1; go_simp
                go_frame
                refine h_val (i := 10) (v := .bool false) rfl (by kernel_rfl) (by kernel_rfl) (by kernel_rfl) (fun _ _ _ h => h) (by rfl) (fun wz hS => ?_) K_0.out ?_
                · go_simp
                go_frame
                refine h_val (i := 11) (v := .bool false) rfl (by kernel_rfl) (by kernel_rfl) (by kernel_rfl) (fun _ _ _ h => h) (by rfl) (fun wz hS => ?_) K_0.out ?_
                · go_simp
                go_frame
                refine h_done (by kernel_rfl) ?_
                gi_wp2
                exact FIN.out
              · have HBAD := Lib.hid (show ¬ pre ++ [x] <+: P from fun h => by
                  have hz := HII.out.ok (pre_cut h)
                  obtain ⟨r, hr⟩ := h
                  have h1 := HPZ.out
                  rw [← hr, hz, List.append_assoc, List.getElem?_append_right (Nat.le_refl _)] at h1
                  simp at h1
                  exact hxp h1)
                have hb : ckB x p = false := by
                  cases hc : ckB x p with
                  | false => rfl
                  | true => exact absurd ((ckB_iff _ _).1 hc) hxp
                have hq := fun w => span_neq x p w
                rw [hb] at hq
                unfold cvs crow at hq
                clear hxp HPZ HII hb
                refine wpIn_block ?_
                gi_wp2
                refine drawnHIn_of_plain (S := fun W' => Below W8.heap.size W8 W') (by kernel_rfl) (fun _ _ h => h) rfl ?_
                refine h_val (i := 0) (v := .int .i64 (z : Nat)) rfl (by kernel_rfl) (by kernel_rfl) (by kernel_rfl) (fun _ _ _ h => h) (by rfl) (fun wz hS => ?_) K_0.out ?_
                · have q1 := (hS.cell (World.block_lt_of_cell? _ _ c1)).trans c1; go_simp
                go_frame
                refine h_val (i := 1) (v := .slice (some ⟨g, off, none⟩) P.length vc) rfl (by kernel_rfl) (by kernel_rfl) (by kernel_rfl) (fun _ _ _ h => h) (by rfl) (fun wz hS => ?_) K_0.out ?_
                · have q1 := (hS.cell (World.block_lt_of_cell? _ _ ca)).trans ca; go_simp
                go_frame
                refine h_val (i := 2) (v := .int .i64 (P.length : Nat)) rfl (by kernel_rfl) (by kernel_rfl) (by kernel_rfl) (fun _ _ _ h => h) (by rfl) (fun wz hS => ?_) K_0.out ?_
                · go_simp
                go_frame
                refine h_val (i := 3) (v := .bool false) rfl (by kernel_rfl) (by kernel_rfl) (by kernel_rfl) (fun _ _ _ h => h) (by rfl) (fun wz hS => ?_) K_0.out ?_
                · go_simp
                go_frame
                refine h_val (i := 4) (v := .bool false) rfl (by kernel_rfl) (by kernel_rfl) (by kernel_rfl) (fun _ _ _ h => h) (by rfl) (fun wz hS => ?_) K_0.out ?_
                · go_simp
                go_frame
                refine h_val (i := 5) (v := .agg #[.int .i64 (x.n : Nat), .int .i64 x.d]) rfl (by kernel_rfl) (by kernel_rfl) (by kernel_rfl) (fun _ _ _ h => h) (by rfl) (fun wz hS => ?_) K_0.out ?_
                · have q1 := (hS.cell (World.block_lt_of_cell? _ _ x0)).trans x0; have q2 := (hS.cell (World.block_lt_of_cell? _ _ x1)).trans x1; go_simp
                go_frame
                refine h_val (i := 6) (v := .slice (some ⟨g, off, none⟩) P.length vc) rfl (by kernel_rfl) (by kernel_rfl) (by kernel_rfl) (fun _ _ _ h => h) (by rfl) (fun wz hS => ?_) K_0.out ?_
                · have q1 := (hS.cell (World.block_lt_of_cell? _ _ ca)).trans ca; go_simp
                go_frame
                refine h_val (i := 7) (v := .int .i64 (z : Nat)) rfl (by kernel_rfl) (by kernel_rfl) (by kernel_rfl) (fun _ _ _ h => h) (by rfl) (fun wz hS => ?_) K_0.out ?_
                · have q1 := (hS.cell (World.block_lt_of_cell? _ _ c1)).trans c1; go_simp
                go_frame
                refine h_val (i := 8) (v := .pointer (some ⟨g, off + z * 2, none⟩)) rfl (by kernel_rfl) (by kernel_rfl) (by kernel_rfl) (fun _ _ _ h => h) (by rfl) (fun wz hS => ?_) K_0.out ?_
                · go_simp
                go_frame
                refine h_val (i := 9) (v := .agg #[.int .i64 (p.n : Nat), .int .i64 p.d]) rfl (by kernel_rfl) (by kernel_rfl) (by kernel_rfl) (fun _ _ _ h => h) (by rfl) (fun wz hS => ?_) K_0.out ?_
                · have q1 := (hS.cell (World.block_lt_of_cell? _ _ p0)).trans p0; have q2 := (hS.cell (World.block_lt_of_cell? _ _ p1)).trans p1; go_simp
                go_frame
                refine h_val (i := 10) (v := .bool true) rfl (by kernel_rfl) (by kernel_rfl) (by kernel_rfl) (fun _ _ _ h => h) (by rfl) (fun wz hS => ?_) K_0.out ?_
                · go_simp
                go_frame
                refine h_val (i := 11) (v := .bool true) rfl (by kernel_rfl) (by kernel_rfl) (by kernel_rfl) (fun _ _ _ h => h) (by rfl) (fun wz hS => ?_) K_0.out ?_
                · go_simp
                go_frame
                refine h_done (by kernel_rfl) ?_
                gi_wp2
                exact ⟨KDR.out.trans keeps_set, HBAD.out⟩
            · have g5 : decide ((P.length : Int) ≤ (z : Int)) = true := decide_eq_true (by omega)
              have hge : P.length ≤ z := by omega
              have HBAD := Lib.hid (show ¬ pre ++ [x] <+: P from fun h => by
                have hz := HII.out.ok (pre_cut h)
                have hl := h.length_le
                rw [List.length_append] at hl
                simp at hl
                omega)
              clear hr3 HII hI
              refine wpIn_block ?_
              gi_wp2
              refine drawnHIn_of_plain (S := fun W' => Below W8.heap.size W8 W') (by kernel_rfl) (fun _ _ h => h) rfl ?_
              refine h_val (i := 0) (v := .int .i64 (z : Nat)) rfl (by kernel_rfl) (by kernel_rfl) (by kernel_rfl) (fun _ _ _ h => h) (by rfl) (fun wz hS => ?_) K_0.out ?_
              · have q1 := (hS.cell (World.block_lt_of_cell? _ _ c1)).trans c1; go_simp
              go_frame
              refine h_val (i := 1) (v := .slice va P.length vc) rfl (by kernel_rfl) (by kernel_rfl) (by kernel_rfl) (fun _ _ _ h => h) (by rfl) (fun wz hS => ?_) K_0.out ?_
              · have q1 := (hS.cell (World.block_lt_of_cell? _ _ ca)).trans ca; go_simp
              go_frame
              refine h_val (i := 2) (v := .int .i64 (P.length : Nat)) rfl (by kernel_rfl) (by kernel_rfl) (by kernel_rfl) (fun _ _ _ h => h) (by rfl) (fun wz hS => ?_) K_0.out ?_
              · go_simp
              go_frame
              refine h_val (i := 3) (v := .bool true) rfl (by kernel_rfl) (by kernel_rfl) (by kernel_rfl) (fun _ _ _ h => h) (by rfl) (fun wz hS => ?_) K_0.out ?_
              · go_simp
              go_frame
              refine h_val (i := 4) (v := .bool true) rfl (by kernel_rfl) (by kernel_rfl) (by kernel_rfl) (fun _ _ _ h => h) (by rfl) (fun wz hS => ?_) K_0.out ?_
              · go_simp
              go_frame
              refine h_skipO (i := 5) rfl (by kernel_rfl) (by kernel_rfl) (by kernel_rfl) (fun _ _ _ h => h) (by rfl) K_0.out ?_
              go_frame
              refine h_skipO (i := 6) rfl (by kernel_rfl) (by kernel_rfl) (by kernel_rfl) (fun _ _ _ h => h) (by rfl) K_0.out ?_
              go_frame
              refine h_skipO (i := 7) rfl (by kernel_rfl) (by kernel_rfl) (by kernel_rfl) (fun _ _ _ h => h) (by rfl) K_0.out ?_
              go_frame
              refine h_skipO (i := 8) rfl (by kernel_rfl) (by kernel_rfl) (by kernel_rfl) (fun _ _ _ h => h) (by rfl) K_0.out ?_
              go_frame
              refine h_skipO (i := 9) rfl (by kernel_rfl) (by kernel_rfl) (by kernel_rfl) (fun _ _ _ h => h) (by rfl) K_0.out ?_
              go_frame
              refine h_skipO (i := 10) rfl (by kernel_rfl) (by kernel_rfl) (by kernel_rfl) (fun _ _ _ h => h) (by rfl) K_0.out ?_
              go_frame
              refine h_val (i := 11) (v := .bool true) rfl (by kernel_rfl) (by kernel_rfl) (by kernel_rfl) (fun _ _ _ h => h) (by rfl) (fun wz hS => ?_) K_0.out ?_
              · go_simp
              go_frame
              refine h_done (by kernel_rfl) ?_
              gi_wp2
              exact ⟨KDR.out.trans keeps_set, HBAD.out⟩
          case done =>
            rintro D3 ys W9 hD hS ⟨z, hI⟩ hDW
            obtain rfl : ys = rl cur := hS
            subst hT
            have hz : z = P.length := by have := hI.ok (by rw [HP.out]; exact List.prefix_rfl); rw [this, HP.out]
            subst hz
            have c1 : W9.cell? ⟨bn, 0, none⟩ = some (.int .i64 (P.length : Nat)) := hI.c1.cell 0
            have ca : W9.cell? ⟨ba, 0, none⟩ = some (.slice va P.length vc) := (HROW.out _ hI.kp).1.cell 0
            have B9 : Below wr.heap.size wr W9 := BW5.out.trans (hI.kp.off.below (fun q hq => by
              have z1 := HBN.out
              have z2 := BW5.out.size
              rcases hq with rfl | hq <;> omega) BW5.out.size)
            have R9 := Lib.hid (R0.out.below B9)
            obtain ⟨k1, k2, k3, k4, k5, k6⟩ := HKEEP.out _ (O0.out.seq (Off.of_below B9))
            have HE := Lib.hid (show (∀ E ∈ D3 :: D :: Ds, w.heap.size ≤ E ∧ E ≠ br ∧ W9.heap[E]? = some (.deferred (some []))) ∧ (D3 :: D :: Ds).Nodup ∧ Cb br 4 #[.bool false] W9 ∧ Below w.heap.size w W9 ∧ w.heap.size ≤ br from by
              have zz := O5.out.size
              have lt0 : ∀ E ∈ D :: Ds, E < W.heap.size := fun E hE => lt_of_heap ((HKEEP.out _ (Off.refl X W)).2.2.1 E hE).2.2
              have zb := (HKEEP.out _ (Off.refl X W)).2.2.2.1.lt
              have zw := k5.size
              refine ⟨fun E hE => ?_, List.nodup_cons.2 ⟨fun h => by have := lt0 _ h; omega, HND.out⟩, k4, k5, by rw [HBR.out]; exact Nat.le_refl _⟩
              rcases List.mem_cons.1 hE with rfl | hE
              · have z5 := (HKEEP.out _ (Off.refl X W)).2.2.2.2.1.size
                exact ⟨by omega, by omega, hDW⟩
              · exact k3 E hE)
            have HC1 := Lib.hid (rv_count R9.out.fst)
            have HC2 := Lib.hid (fun (wx : World) (hb : Below W9.heap.size W9 wx) => rv_count ((R9.out.below hb).snd))
            obtain ⟨nc, hnc⟩ : ∃ n, cntR cur = n := ⟨_, rfl⟩
            rw [hnc] at HC1 HC2
            clear hI hD hDW k1 k2 k3 k4 k5 k6 hnc HROW HKEEP HRG HI3 B9 R9 HND
            gi_wp2
            go_wp2_with (first
              | (go_at_call 16; refine HC1.out.mono ?_; rintro e wa ⟨rfl, bb⟩; have BA := Lib.hid bb; clear bb HC1)
              | (go_at_call 16; refine (HC2.out _ BA.out).mono ?_; rintro e wb ⟨rfl, bb⟩; have BBB := Lib.hid (below_add BA.out bb BA.out.size); clear bb HC2)
              | (go_at_call 8; refine (known11_any _).mono ?_; rintro e wk ⟨rfl, bb⟩; have BK := Lib.hid (below_add BBB.out bb BBB.out.size); clear bb; have v1 := (HE.out.2.2.1.below BK.out).cell 0; have v2 := (HE.out.2.2.1.below BK.out).frozen 0))
            obtain ⟨e1, e2, e3, e4, e5⟩ := HE.out
            have v3 : Cb br 4 #[.bool true] (wk.setCell ⟨br, 0, none⟩ (.bool true)) := heap_set _ (e3.below BK.out)
            have v4 : Below w.heap.size w (wk.setCell ⟨br, 0, none⟩ (.bool true)) := (below_add e4 BK.out e4.size).setCell (p := ⟨br, 0, none⟩) e5 (.bool true)
            have v5 : ∀ E ∈ D3 :: D :: Ds, w.heap.size ≤ E ∧ (wk.setCell ⟨br, 0, none⟩ (.bool true)).heap[E]? = some (.deferred (some [])) := fun E hE => by
              obtain ⟨t1, t2, t3⟩ := e1 E hE
              exact ⟨t1, (KeepsOthers.setCell wk ⟨br, 0, none⟩ (.bool true)).same E _ ((BK.out.block E (lt_of_heap t3)).trans t3) rfl⟩
            refine leaves_marks11 (lo := w.heap.size) (D3 :: D :: Ds) _ e2 v5 (fun W' hb' hk' => ?_)
            have v6 : W'.cell? ⟨br, 0, none⟩ = some (.bool true) := by
              have hh := hk' br (fun h => (e1 br h).2.1 rfl)
              have h3 := v3.cell 0
              rw [← show _ = some (Value.bool true) from h3]
              simp only [World.cell?, hh]
            exact ⟨.bool true, by simp [results, Try.f4, go_sem, v6], rfl, v4.trans hb'⟩


theorem one_walk (v0 : Value) (ls : List OpL) (w : World) (h0 : Orow w v0 ls) :
    Calls Try.prog 4 #[v0] w fun e w' => e = .returned (.bool true) ∧ Below w.heap.size w w' := by
  by_cases hl : ls.length ≤ 60
  · exact one_main v0 ls w h0 hl
  · exact one_long v0 ls w h0 hl
end Go.Proofs.Ytoppgdhidnpibaa
