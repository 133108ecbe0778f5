
import Derived.Test.YteilhjkkgdgbkaaNP
/- NQ: ArenaPlays' walk -/
namespace Go.Proofs.Yteilhjkkgdgbkaa
open Go.RowKit Go.Shelf
set_option linter.unusedVariables false
attribute [local go_sem] Oper.semAt_some

theorem RefR.put2 {B : Nat} {U : Nat → Prop} {rb : Nat} {A : ArS Int} {w : World} {i : Nat} {x : Int} (h : RefR B U rb A w) (hx : A.at_ i = some x) (y : Int) : ∃ xg xc, w.cell? ⟨rb, 0, none⟩ = some (.slice (some ⟨xg, 0, none⟩) A.ps.length xc) ∧ w.cell? ⟨xg, i, none⟩ = some (.int .i64 x) ∧ w.frozen? ⟨xg, i, none⟩ = false ∧ U xg ∧ RefR B U rb (A.put i y) (w.setCell ⟨xg, i, none⟩ (.int .i64 y)) ∧ (w.setCell ⟨xg, i, none⟩ (.int .i64 y)).cell? ⟨rb, 0, none⟩ = some (.slice (some ⟨xg, 0, none⟩) A.ps.length xc) := by
  have hlt := at_lt hx
  have ho := h.open_
  obtain ⟨xv, tv, lv, h⟩ := h
  obtain ⟨xg, xc, rfl, -, -, -, hxf, hxat⟩ := own_at rfl h.hx (by simp; omega)
  obtain ⟨c0, -, -⟩ := h.cells
  rw [List.length_map] at c0
  have hlt2 : i < (A.ps.map thing).length := by simpa using hlt
  have ha : A.ps[i] = some x := by have := at_get hlt; rw [List.getElem?_eq_getElem hlt, hx] at this; exact Option.some.inj this
  refine ⟨xg, xc, c0, hxat i hlt2 _ ?_, hxf i, h.sX _ rfl, ?_, by have := (h.pX hlt2 y).cells.1; rw [List.length_map] at this; exact this⟩
  · show [Value.int .i64 ((A.ps.map thing)[i])] = _
    rw [List.getElem_map, ha]; rfl
  · have hp := h.pX hlt2 y
    refine ⟨.slice (some ⟨xg, 0, none⟩) (A.ps.map thing).length xc, tv, lv, ?_⟩
    show RefM B U rb _ tv lv ((A.ps.set i (some y)).map thing) ((A.ps.set i (some y)).map Option.isSome) A.free _
    rw [List.map_set, List.map_set]
    have e : (A.ps.map Option.isSome).set i (some y).isSome = A.ps.map Option.isSome := by
      apply List.ext_getElem?
      intro k
      rw [List.getElem?_set]
      split
      · rename_i hk
        subst hk
        rw [if_pos (by simpa using hlt), List.getElem?_map, List.getElem?_eq_getElem hlt, ha]; rfl
      · rfl
    rw [e]
    exact hp
theorem al_new {W : World} {o : Obj} {b : Nat} (e : b = W.heap.size) : (W.alloc o).heap[b]? = some o := by rw [e]; exact heap_alloc_new W o
theorem al_old {W : World} {o : Obj} {b : Nat} {r : Option Obj} (hb : b < W.heap.size) (e : W.heap[b]? = r) : (W.alloc o).heap[b]? = r := by rw [Below.heap_alloc W o b hb, e]
/-- The world while the ids are ranged over. -/
structure RnR (wc : World) (ab j : Nat) (W : World) : Prop where
  bel : Below wc.heap.size wc W
  bn : W.heap[wc.heap.size]? = some (.cells #[.int .i64 (j : Nat)] 3 (0, 0))
  bx : W.heap[wc.heap.size + 1]? = some (.cells #[.pointer (some ⟨ab, 0, none⟩)] 23 (0, 0))
section
variable {wc W W' : World} {ab j : Nat}
theorem RnR.below (h : RnR wc ab j W) (hb : Below W.heap.size W W') : RnR wc ab j W' :=
  ⟨below_add h.bel hb h.bel.size, (hb.block _ (lt_of_heap h.bn)).trans h.bn, (hb.block _ (lt_of_heap h.bx)).trans h.bx⟩
theorem RnR.own {B : Nat} {row : Option Nat} (h : RnR wc ab j W) (hB : wc.heap.size + 2 ≤ B) (hg : W.grownBy W' row) (hr : ∀ r, row = some r → B ≤ r) : RnR wc ab j W' :=
  ⟨h.bel.grown hg h.bel.size (fun k e => by have := hr k e; omega), (hg.block _ (lt_of_heap h.bn) (fun e => by have := hr _ e.symm; omega)).trans h.bn, (hg.block _ (lt_of_heap h.bx) (fun e => by have := hr _ e.symm; omega)).trans h.bx⟩
theorem RnR.put (h : RnR wc ab j W) (q : Nat) : RnR wc ab q (W.setCell ⟨wc.heap.size, 0, none⟩ (.int .i64 (q : Nat))) := by
  have hG := grown_set (w := W) (g := wc.heap.size) (o := 0) (.int .i64 (q : Nat))
  refine ⟨h.bel.setCell (p := ⟨wc.heap.size, 0, none⟩) (Nat.le_refl _) _, ?_, (hG.block _ (lt_of_heap h.bx) (fun e => by injection e; omega)).trans h.bx⟩
  rw [heap_set _ h.bn]; rfl
theorem RnR.cells (h : RnR wc ab j W) : W.cell? ⟨wc.heap.size, 0, none⟩ = some (.int .i64 (j : Nat)) ∧ W.frozen? ⟨wc.heap.size, 0, none⟩ = false ∧ W.cell? ⟨wc.heap.size + 1, 0, none⟩ = some (.pointer (some ⟨ab, 0, none⟩)) := by
  refine ⟨?_, ?_, ?_⟩
  · rw [cell_of_row W _ 0 _ _ _ h.bn]; rfl
  · simp [World.frozen?, h.bn]
  · rw [cell_of_row W _ 0 _ _ _ h.bx]; rfl
end
@[reducible] def P4 (cb rb n xc : Nat) (xa : Option Addr) (w : World) : Prop := w.cell? ⟨cb, 0, none⟩ = some (.pointer (some ⟨rb, 0, none⟩)) ∧ w.cell? ⟨rb, 0, none⟩ = some (.slice xa n xc)
/-- The loop's frame: what it does not write, how far it has come; the rest is u. -/
@[reducible] def frm (la : Option Addr) (lc : Nat) (ls : List OpL) (b ab rb cb k : Nat) (u : Nat → Value) (ds : List Deferred) : Act := { tmps := #[.slice la ls.length lc, undef, .pointer (some ⟨b, 0, none⟩), .pointer (some ⟨ab, 0, none⟩), .pointer (some ⟨cb, 0, none⟩), undef, u 6, u 7, u 8, u 9, u 10, u 11, u 12, .pointer (some ⟨ab, 0, none⟩), .agg #[.slice none 0 0, .slice none 0 0, .slice none 0 0], .pointer (some ⟨rb, 0, none⟩), .pointer (some ⟨ab, 0, none⟩), .bool false, .bool false, .slice la ls.length lc, .int .i64 ls.length, .bool false, .bool false, undef, undef, undef, undef, undef, .slice la ls.length lc, .int .i64 ls.length, .int .i64 (k), u 31, u 32, u 33, u 34, u 35, u 36, u 37, u 38, u 39, u 40, u 41, u 42, u 43, u 44, u 45, u 46, u 47, u 48, u 49, u 50, u 51, u 52, u 53, u 54, u 55, u 56, u 57, u 58, u 59, u 60, u 61, u 62, u 63, u 64, u 65, u 66, u 67, u 68, u 69, u 70, u 71, u 72, u 73, u 74, u 75, u 76, u 77, u 78, u 79, u 80, u 81, u 82, u 83, u 84, u 85, u 86, u 87, u 88, u 89, u 90, u 91, u 92, u 93, u 94, u 95, u 96, u 97, u 98, u 99, u 100, u 101, u 102, u 103, u 104, u 105, u 106, u 107, u 108, u 109, u 110, u 111, u 112, u 113, u 114, u 115, u 116, u 117, u 118, u 119, u 120, u 121, u 122, u 123, u 124, u 125, u 126, u 127, u 128, u 129, u 130, u 131, u 132, u 133, u 134, u 135, u 136, u 137, u 138, u 139, u 140, u 141, u 142, u 143, u 144, u 145, u 146, u 147, u 148, u 149, u 150, u 151, u 152, u 153, u 154, u 155, u 156, u 157, u 158, u 159, u 160, u 161, u 162, u 163, u 164, u 165, u 166, u 167, u 168, u 169, u 170, u 171, u 172, u 173, u 174, u 175, u 176, u 177, u 178, u 179, u 180, u 181, u 182, u 183, u 184, u 185, u 186, u 187, u 188, u 189, undef], defers := ds }
@[reducible] def mk (D : Nat) : Deferred := { target := .collected D, args := #[] }
@[reducible] def W6 (rb cb xb xg n xc j : Nat) (x : Int) (w : World) : Prop := w.cell? ⟨cb, 0, none⟩ = some (.pointer (some ⟨rb, 0, none⟩)) ∧ w.cell? ⟨rb, 0, none⟩ = some (.slice (some ⟨xg, 0, none⟩) n xc) ∧ w.cell? ⟨xb, 2, none⟩ = some (.int .i64 x) ∧ w.cell? ⟨xb, 1, none⟩ = some (.int .i64 (j : Nat))
/-- What is true of the frame, and of the world, between two rounds. -/
structure PlaysI (la : Option Addr) (lc : Nat) (ls : List OpL) (wB : World) (b ab rb cb : Nat) (a : Act) (wr : World) (k : Nat) (Ds : List Nat) (C : Nat → Option Obj) (S U : Nat → Prop) (A : ArS Int) : Prop where
  hk : k ≤ ls.length
  play : PlayR wB ab rb C S U A k wr
  lt : ∀ q, S q ∨ U q → q < wr.heap.size
  hC : C cb = some (ptrO rb)
  nd : Ds.Nodup
  ds : ∀ D ∈ Ds, C D = some (.deferred (some []))
  act : a = frm la lc ls b ab rb cb k (fun i => a.tmps.getD i undef) (Ds.map mk)

set_option maxRecDepth 100000 in
set_option maxHeartbeats 4000000 in
theorem plays_walk (v : Value) (ls : List OpL) (w : World) (h : Orow w v ls) :
    Calls Try.prog 3 #[v] w fun e w' => e = .returned (.bool true) ∧ Below w.heap.size w w' := by
  by_cases hl : 200 < ls.length
  · exact plays_long v ls w h hl
  obtain ⟨la, lc, rfl⟩ := h.shape
  have g1 : decide (200 < (ls.length : Int)) = false := by rw [decide_eq_false_iff_not]; omega
  have hl2 : ls.length ≤ 200 := by omega
  have HLS := Lib.hid h
  have HN := Lib.hid (new_6 (w.alloc resO))
  clear h hl
  refine (callsIn_wide (n := 9)).1 ?_
  refine callsIn_of_wp_marks Try.func3 rfl trivial ?_ rfl
  simp only [Try.ntmps3, List.size_toArray, List.length_cons, List.length_nil, Nat.reduceAdd, Nat.reduceSub, Array.replicate_succ, Array.replicate_zero, List.push_toArray, List.append_toArray, List.nil_append, List.cons_append]
  refine wpIn_wide.2 ?_
  go_wp2_with (go_at_call 7; refine HN.out.mono ?_; rintro e w2 ⟨ab, rfl, hT, hb, -⟩; refine Hid.out ?_)
  obtain ⟨S0, U0, hP, hSU⟩ := PlayR.first hT hb
  have H0 := Lib.hid (And.intro hP hSU)
  clear hT hb hP hSU HN
  refine Lib.hid ?_
  go_wp2
  obtain ⟨rb, hrb⟩ : ∃ rb, w2.heap.size = rb := ⟨_, rfl⟩
  obtain ⟨cb, hwc⟩ : ∃ cb, rb + 1 = cb := ⟨_, rfl⟩
  rw [hrb] at H0 ⊢
  rw [hwc] at H0 ⊢
  generalize (w2.alloc (.cells #[.slice none 0 0, .slice none 0 0, .slice none 0 0] 30)).alloc (.cells #[.pointer (some ⟨rb, 0, none⟩)] 25) = W0 at *
  clear hrb hwc
  refine wp_loop (fun a wr => ∃ k Ds C S U A, PlaysI la lc ls (w.alloc resO) w.heap.size ab rb cb a wr k Ds C S U A) (fun a _ => ls.length - (intOf (a.tmps.getD 30 undef)).toNat) ?_ ?_
  · exact ⟨0, [], _, S0, U0, newA, ⟨Nat.zero_le _, H0.out.1, H0.out.2, by simp [addC], List.nodup_nil, fun D hD => (by cases hD), rfl⟩⟩
  rintro a wr ⟨k, Ds, C, S, U, A, ⟨hk, hP, hSU, hC, hnd, hDs, ha⟩⟩
  obtain ⟨u, hu⟩ : ∃ u : Nat → Value, u = fun i => a.tmps.getD i undef := ⟨_, rfl⟩
  rw [← hu] at ha
  clear hu
  subst ha
  by_cases hlt : k < ls.length
  · --ROUND{
    obtain ⟨lb, lo, rfl, hlc, -, hlb, hat⟩ := Orow.opn HLS.out (by omega)
    obtain ⟨cy0, cy1, cy2⟩ := hat k hlt
    have hBW : Below w.heap.size w wr := ((Below.refl w.heap.size w).alloc (Nat.le_refl _) resO).trans (hP.bel.mono (by simp))
    have c0 := (hBW.cell (p := ⟨lb, lo + k * 3, none⟩) hlb).trans cy0
    have c1 := (hBW.cell (p := ⟨lb, lo + k * 3 + 1, none⟩) hlb).trans cy1
    have c2 := (hBW.cell (p := ⟨lb, lo + k * 3 + 2, none⟩) hlb).trans cy2
    have g2 : decide ((k : Int) < (ls.length : Int)) = true := by rw [decide_eq_true_iff]; omega
    have k0 : (0 : Int) ≤ (k : Int) := by omega
    have k1 : (k : Int) < (ls.length : Int) := by omega
    have HM := Lib.hid (⟨hk, hC, hnd, hDs, hlt, hl2⟩ : k ≤ ls.length ∧ C cb = some (ptrO rb) ∧ Ds.Nodup ∧ (∀ D ∈ Ds, C D = some (.deferred (some []))) ∧ k < ls.length ∧ ls.length ≤ 200)
    have HP := Lib.hid (And.intro hP hSU)
    have HLB := Lib.hid hlc
    clear hat cy0 cy1 cy2 hBW hP hSU hk hC hnd hDs hlc hl2
    generalize ls[k] = O at *
    obtain ⟨kd, id, x⟩ := O
    simp only at c0 c1 c2
    have hbx := (Below.refl wr.heap.size wr).alloc (Nat.le_refl _) (.cells #[.int .i64 kd, .int .i64 id, .int .i64 x] 33)
    obtain ⟨hP, hSU⟩ := HP.out
    have hP1 := hP.below hbx
    have HX1 := Lib.hid (show (wr.alloc (.cells #[.int .i64 kd, .int .i64 id, .int .i64 x] 33)).heap[wr.heap.size]? = some (.cells #[.int .i64 kd, .int .i64 id, .int .i64 x] 33) from heap_alloc_new wr _)
    have hwc0 := (hP1.keep cb _ HM.out.2.1).1
    have c3 : (wr.alloc (.cells #[.int .i64 kd, .int .i64 id, .int .i64 x] 33)).cell? ⟨cb, 0, none⟩ = some (.pointer (some ⟨rb, 0, none⟩)) := by rw [cell_of_row _ cb 0 _ _ _ hwc0]; rfl
    have HHS := Lib.hid (rhas_any id _ hP1.r (Nat.le_trans hP1.t.2.2.ps (by have := HM.out.2.2.2.2; omega)))
    have HP1 := Lib.hid (show PlayR (w.alloc resO) ab rb C S U A k (wr.alloc (.cells #[.int .i64 kd, .int .i64 id, .int .i64 x] 33)) ∧ ∀ q, S q ∨ U q → q < wr.heap.size from ⟨hP1, hSU⟩)
    clear hP1 hP hSU hbx hwc0 HP
    go_wp2_with (go_at_call 9; refine HHS.out.mono ?_; rintro e wx ⟨rfl, hw⟩; subst hw; refine Hid.out ?_)
    generalize wr.alloc (.cells #[.int .i64 kd, .int .i64 id, .int .i64 x] 33) = W1 at *
    generalize wr.heap.size = xb at *
    obtain ⟨d, hd⟩ : ∃ d, A.has id = d := ⟨_, rfl⟩
    rw [hd]
    have HD := Lib.hid hd
    clear hd c0 c1 c2 HHS
    refine Lib.hid ?_
    go_upto_if 38 with (fail)
    go_cut [7] from 31 to 189 (fun s7 wx => (∃ e : Int, s7 = .int .i64 e ∧ e = if d then 0 else 5) ∧ wx = W1)
    case first =>
      cases d with
      | true =>
        go_wp2
        go_meet
        exact ⟨⟨_, rfl, rfl⟩, rfl⟩
      | false =>
        go_wp2
        go_meet
        exact ⟨⟨_, rfl, rfl⟩, rfl⟩
    case rest =>
      obtain ⟨⟨e7, rfl, he7⟩, hw⟩ := hcut
      have HE := Lib.hid he7
      clear he7
      have hw := hw.symm
      subst hw
      clear hw
      go_step
      go_step
      obtain ⟨hP1, hSx⟩ := HP1.out
      have hxl := lt_of_heap HX1.out
      have x0 : W1.cell? ⟨xb, 0, none⟩ = some (.int .i64 kd) := by rw [cell_of_row W1 xb 0 _ _ _ HX1.out]; rfl
      have x1 : W1.cell? ⟨xb, 1, none⟩ = some (.int .i64 id) := by rw [cell_of_row W1 xb 1 _ _ _ HX1.out]; rfl
      have x2 : W1.cell? ⟨xb, 2, none⟩ = some (.int .i64 x) := by rw [cell_of_row W1 xb 2 _ _ _ HX1.out]; rfl
      have hSz : ∀ q, S q ∨ U q → q < W1.heap.size := fun q hq => Nat.lt_trans (hSx q hq) hxl
      have hkl := HM.out.2.2.2.2.1
      have hkm := HM.out.2.2.2.2.2
      have hn : k ≤ 1000000 := by omega
      have hps := hP1.t.2.2.ps
      have hfr := hP1.t.2.2.free
      have HSZ := Lib.hid hSz
      have HSX := Lib.hid hSx
      have HPP := Lib.hid hP1
      have H3 := Lib.hid (fun (w4 : World) (ho : Off S W1 w4) => (show w4.cell? ⟨xb, 2, none⟩ = some (.int .i64 x) ∧ w4.cell? ⟨cb, 0, none⟩ = some (.pointer (some ⟨rb, 0, none⟩)) ∧ w4.cell? ⟨xb, 1, none⟩ = some (.int .i64 id) from by
        have e1 : w4.heap[xb]? = _ := (ho.block xb hxl (fun hs => by have := hSx xb (.inl hs); omega)).trans HX1.out
        obtain ⟨q1, q2, q3, q4⟩ := hP1.keep cb _ HM.out.2.1
        have e2 : w4.heap[cb]? = _ := (ho.block cb (lt_of_heap q1) q2).trans q1
        exact ⟨by rw [cell_of_row w4 xb 2 _ _ _ e1]; rfl, by rw [cell_of_row w4 cb 0 _ _ _ e2]; rfl, by rw [cell_of_row w4 xb 1 _ _ _ e1]; rfl⟩))
      clear hP1 hSx hSz
      go_cut [] from 31 to 189 (fun wx => ∃ (A' : ArS Int) (S' U' : Nat → Prop), PlayR (w.alloc resO) ab rb C S' U' A' (k + 1) wx ∧ ∀ q, S' q ∨ U' q → q < wx.heap.size)
      case first =>
        --KINDS{
        by_cases hk1 : kd = 1
        · subst hk1
          have hbd : Below W1.heap.size W1 W1.drew := (Below.refl _ _).drew
          have HPd := Lib.hid (HPP.out.below hbd)
          have HT1 := Lib.hid (take_6 x HPd.out.t hn)
          have HT2 := Lib.hid (fun (w4 : World) (ho : Off S W1.drew w4) => rtake x (HPd.out.ref ho) HPd.out.t.ok (by omega) (by omega))
          have H4 := Lib.hid (fun (w4 : World) (ho : Off S W1.drew w4) => (show w4.cell? ⟨xb, 2, none⟩ = some (.int .i64 x) ∧ w4.cell? ⟨cb, 0, none⟩ = some (.pointer (some ⟨rb, 0, none⟩)) from ⟨(H3.out w4 ((Off.of_below hbd).seq ho)).1, (H3.out w4 ((Off.of_below hbd).seq ho)).2.1⟩))
          have H5 := Lib.hid (fun (w4 w5 : World) (ho : Off S W1.drew w4) (ho2 : Off U w4 w5) => (show w5.cell? ⟨xb, 2, none⟩ = some (.int .i64 x) ∧ w5.cell? ⟨cb, 0, none⟩ = some (.pointer (some ⟨rb, 0, none⟩)) from by
            have e1 : w4.heap[xb]? = _ := (ho.block xb hxl (fun hs => by have := HSX.out xb (.inl hs); omega)).trans HX1.out
            obtain ⟨q1, q2, q3, q4⟩ := HPd.out.keep cb _ HM.out.2.1
            have e2 : w4.heap[cb]? = _ := (ho.block cb (lt_of_heap q1) q2).trans q1
            have f1 : w5.heap[xb]? = _ := (ho2.block xb (lt_of_heap e1) (fun hs => by have := HSX.out xb (.inr hs); omega)).trans e1
            have f2 : w5.heap[cb]? = _ := (ho2.block cb (lt_of_heap e2) q3).trans e2
            exact ⟨by rw [cell_of_row w5 xb 2 _ _ _ f1]; rfl, by rw [cell_of_row w5 cb 0 _ _ _ f2]; rfl⟩))
          have hS0 : W1.drew.cell? ⟨xb, 2, none⟩ = some (.int .i64 x) ∧ W1.drew.cell? ⟨cb, 0, none⟩ = some (.pointer (some ⟨rb, 0, none⟩)) := H4.out _ (Off.refl _ _)
          have HZd := Lib.hid (show ∀ q, S q ∨ U q → q < W1.drew.heap.size from HSZ.out)
          clear hbd
          go_wp2_with fail
          go_region_held3 (fun w' => w'.cell? ⟨xb, 2, none⟩ = some (.int .i64 x) ∧ w'.cell? ⟨cb, 0, none⟩ = some (.pointer (some ⟨rb, 0, none⟩))) (first | assumption | trivial)
            (first
              | (go_at_call 10; refine HT1.out.mono ?_; rintro e w4 ⟨rfl, ht4, ho4⟩; have hS4 := H4.out w4 ho4)
              | (go_at_call 11; refine (HT2.out w4 ho4).mono ?_; rintro e w5 ⟨rfl, hr5, ho5⟩; have hS5 := H5.out w4 w5 ho4 ho5))
          obtain ⟨S2, U2, hP2, hN2⟩ := HPd.out.step2 HZd.out ht4 (fun q hq => hq) ho4 hr5 (fun q hq => hq) ho5
          have FIN := Lib.hid hP2.cut
          clear hP2 hN2 ht4 ho4 hr5 ho5 hS4 hS5 hS0
          go_wp2
          go_meet
          exact ⟨_, _, _, FIN.out, fun q hq => by rcases hq with e | e <;> exact e.2⟩
        · have q1 : (kd == 1) = false := by simpa using hk1
          have q1' : decide (kd = 1) = false := by simpa using hk1
          by_cases hk2 : kd = 2
          · subst hk2
            cases d with
            | true =>
              obtain rfl : e7 = 0 := by simpa using HE.out
              obtain ⟨j, y, rfl, hy, hj⟩ := has_some HD.out
              have HF := Lib.hid (free_yes_6 HPP.out.t hn hy)
              have HR := Lib.hid (fun (w4 : World) (ho : Off S W1 w4) => rdrop (HPP.out.ref ho) hy (Nat.le_trans hfr hn))
              go_wp2_with (first
                | (go_at_call 12; refine HF.out.mono ?_; rintro e w4 ⟨rfl, ht4, ho4⟩; obtain ⟨z2, z0, z1⟩ := H3.out w4 ho4)
                | (go_at_call 13; refine (HR.out w4 ho4).mono ?_; rintro e w5 ⟨rfl, hr5, ho5⟩))
              obtain ⟨S2, U2, hP2, hN2⟩ := HPP.out.step2 HSZ.out ht4 (fun q hq => hq) ho4 hr5 (fun q hq => hq) ho5
              have FIN := Lib.hid hP2.cut
              clear hP2 hN2 ht4 ho4 hr5 ho5 z0 z1 z2
              go_wp2
              go_meet
              exact ⟨_, _, _, FIN.out, fun q hq => by rcases hq with e | e <;> exact e.2⟩
            | false =>
              obtain rfl : e7 = 5 := by simpa using HE.out
              have HF := Lib.hid (free_not_6 HPP.out.t hn HD.out)
              go_wp2_with (go_at_call 12; refine HF.out.mono ?_; rintro e w4 ⟨rfl, hw⟩; subst hw)
              go_wp2
              go_meet
              exact ⟨_, _, _, HPP.out.le (Nat.le_succ k), HSZ.out⟩
          · have q2 : (kd == 2) = false := by simpa using hk2
            have q2' : decide (kd = 2) = false := by simpa using hk2
            by_cases hk3 : kd = 3
            · subst hk3
              cases d with
              | true =>
                obtain rfl : e7 = 0 := by simpa using HE.out
                obtain ⟨j, y, rfl, hy, hj⟩ := has_some HD.out
                have HF := Lib.hid (puts_6 x HPP.out.t hn hy)
                go_wp2_with (go_at_call 14; refine HF.out.mono ?_; rintro e w4 ⟨rfl, ht4, ho4⟩; obtain ⟨z2, z0, z1⟩ := H3.out w4 ho4)
                have hbd : Below w4.heap.size w4 w4.drew := (Below.refl _ _).drew
                have hr4 := (HPP.out.ref ho4).below hbd
                obtain ⟨xg, xc, y0, y1, yf, yU, hr5, y6⟩ := hr4.put2 hy x
                obtain ⟨y2, yc, y3⟩ := H3.out w4.drew (ho4.seq (Off.of_below hbd))
                have ho5 : Off U w4 (w4.drew.setCell ⟨xg, j, none⟩ (.int .i64 x)) := (Off.of_below hbd).seq (Off.of_grown (grown_set (w := w4.drew) (g := xg) (o := j) (.int .i64 x)) (fun g hg => by cases hg; exact yU))
                obtain ⟨S2, U2, hP2, hN2⟩ := HPP.out.step2 HSZ.out ht4 (fun q hq => .inl hq) ho4 hr5 (fun q hq => .inl hq) ho5
                have FIN := Lib.hid hP2.cut
                have jj0 : (0 : Int) ≤ (j : Int) := by omega
                have jj1 : (j : Int) < (A.ps.length : Int) := by omega
                clear hP2 hN2 ht4 hbd hr4 hr5 z0 z1 z2
                have hS0 : W6 rb cb xb xg A.ps.length xc j x w4.drew := ⟨yc, y0, y2, y3⟩
                have hS5 : W6 rb cb xb xg A.ps.length xc j x (w4.drew.setCell ⟨xg, j, none⟩ (.int .i64 x)) := by
                  have e1 : w4.heap[xb]? = _ := (ho4.block xb hxl (fun hs => by have := HSX.out xb (.inl hs); omega)).trans HX1.out
                  obtain ⟨q1, q2, q3, q4⟩ := HPP.out.keep cb _ HM.out.2.1
                  have e2 : w4.heap[cb]? = _ := (ho4.block cb (lt_of_heap q1) q2).trans q1
                  have f1 := (ho5.block xb (lt_of_heap e1) (fun hs => by have := HSX.out xb (.inr hs); omega)).trans e1
                  have f2 := (ho5.block cb (lt_of_heap e2) q3).trans e2
                  exact ⟨by rw [cell_of_row _ cb 0 _ _ _ f2]; rfl, y6, by rw [cell_of_row _ xb 2 _ _ _ f1]; rfl, by rw [cell_of_row _ xb 1 _ _ _ f1]; rfl⟩
                clear ho4 ho5 y0 y2 y3 yc y6
                go_region_held3 (fun w' => W6 rb cb xb xg A.ps.length xc j x w') (first | assumption | trivial) (fail)
                go_wp2
                go_meet
                have e5 : (w4.setCell ⟨xg, j, none⟩ (.int .i64 x)).drew = w4.drew.setCell ⟨xg, j, none⟩ (.int .i64 x) := by first | rfl | (unfold World.setCell World.drew; split <;> rfl)
                rw [e5]
                exact ⟨_, _, _, FIN.out.le (Nat.le_succ k), fun q hq => by rcases hq with e | e <;> exact e.2⟩
              | false =>
                obtain rfl : e7 = 5 := by simpa using HE.out
                have HF := Lib.hid (put_not_6 x HPP.out.t hn HD.out)
                go_wp2_with (go_at_call 14; refine HF.out.mono ?_; rintro e w4 ⟨rfl, hw⟩; subst hw)
                go_wp2
                go_meet
                exact ⟨_, _, _, HPP.out.le (Nat.le_succ k), HSZ.out⟩
            · have q3 : (kd == 3) = false := by simpa using hk3
              have q3' : decide (kd = 3) = false := by simpa using hk3
              cases d with
              | true =>
                obtain rfl : e7 = 0 := by simpa using HE.out
                obtain ⟨j, y, rfl, hy, hj⟩ := has_some HD.out
                have HF := Lib.hid (ats_6 HPP.out.t hn hy)
                go_wp2_with (go_at_call 15; refine HF.out.mono ?_; rintro e W1 ⟨rfl, hw⟩; subst hw)
                have hbd : ∀ q, Below W1.heap.size W1 (W1.drewN q) := fun q => blw_drewN (Below.refl _ _) q
                obtain ⟨xa, xc, ta, tc, la2, lc2, y0, y1, y2, hat⟩ := HPP.out.r.open_
                obtain ⟨yx, yc, yi⟩ := H3.out W1 (Off.refl _ _)
                obtain ⟨xg, tg, rfl, rfl, u1, u2, u3, u4⟩ := hat j hj
                rw [hy] at u1
                simp only [thing, Option.getD_some] at u1
                have jj0 : (0 : Int) ≤ (j : Int) := by omega
                have jj1 : (j : Int) < (A.ps.length : Int) := by omega
                have FIN := Lib.hid (fun q => (HPP.out.below (hbd q)).le (Nat.le_succ k))
                clear hbd hat
                go_quiet (fail)
                go_wp2
                go_meet
                exact ⟨_, _, _, FIN.out _, HSZ.out⟩
              | false =>
                obtain rfl : e7 = 5 := by simpa using HE.out
                have HF := Lib.hid (at_not_6 HPP.out.t hn HD.out)
                go_wp2_with (go_at_call 15; refine HF.out.mono ?_; rintro e W1 ⟨rfl, hw⟩; subst hw)
                have hbd : ∀ q, Below W1.heap.size W1 (W1.drewN q) := fun q => blw_drewN (Below.refl _ _) q
                obtain ⟨xa, xc, ta, tc, la2, lc2, y0, y1, y2, hat⟩ := HPP.out.r.open_
                obtain ⟨yx, yc, yi⟩ := H3.out W1 (Off.refl _ _)
                have FIN := Lib.hid (fun q => (HPP.out.below (hbd q)).le (Nat.le_succ k))
                clear hbd hat
                go_quiet (fail)
                go_wp2
                go_meet
                exact ⟨_, _, _, FIN.out _, HSZ.out⟩
        --}KINDS
      case rest =>
        obtain ⟨A2, S2, U2, hPc, hSc⟩ := hcut
        clear hxl x0 x1 x2 hn hps hfr HSZ HSX HPP H3 HX1 HP1 HE HD
        have hn : k + 1 ≤ 1000000 := by omega
        have hps := hPc.t.2.2.ps
        have hps2 : A2.ps.length ≤ 1000 := by omega
        have hok := hPc.t.ok
        have hcl : A2.len = cnt A2.ps := by have := hok.cnt; unfold ArS.len; omega
        obtain ⟨xa, xc, ta, tc, la2, lc2, r0, r1, r2, hat⟩ := hPc.r.open_
        obtain ⟨q1, q2, q3, q4⟩ := hPc.keep cb _ HM.out.2.1
        have HCB := Lib.hid (fun (w4 : World) (hb : Below wc.heap.size wc w4) => (show P4 cb rb A2.ps.length xc xa w4 from
          ⟨by rw [cell_of_row w4 cb 0 _ _ _ ((hb.block _ (lt_of_heap q1)).trans q1)]; rfl, (hb.cell (World.block_lt_of_cell? _ _ r0)).trans r0⟩))
        have HXS := Lib.hid (fun (w4 : World) (hb : Below wc.heap.size wc w4) (i : Nat) (hi : i < A2.ps.length) => (show ∃ xg, xa = some ⟨xg, 0, none⟩ ∧ w4.cell? ⟨xg, i, none⟩ = some (.int .i64 (valA A2 i)) from by
          obtain ⟨xg, tg, e, -, u1, -, -, -⟩ := hat i hi
          exact ⟨xg, e, (hb.cell (World.block_lt_of_cell? _ _ u1)).trans u1⟩))
        have HB := Lib.hid (fun (w4 : World) (hb : Below wc.heap.size wc w4) => hPc.below hb)
        have HCL := Lib.hid (show cb < wc.heap.size ∧ ∀ E ∈ Ds, E < wc.heap.size from ⟨lt_of_heap q1, fun E hE => lt_of_heap (hPc.keep E _ (HM.out.2.2.2.1 E hE)).1⟩)
        have HRES := Lib.hid (fun (w4 : World) (hb : Below wc.heap.size wc w4) => (show w4.cell? ⟨w.heap.size, 0, none⟩ = some (.bool false) ∧ w4.frozen? ⟨w.heap.size, 0, none⟩ = false from by
          have h : w4.heap[w.heap.size]? = some resO := ((hPc.below hb).bel.block _ (by simp)).trans (heap_alloc_new w resO)
          exact ⟨by rw [cell_of_row w4 _ 0 _ _ _ h]; rfl, by simp [World.frozen?, h]⟩))
        have HRL := Lib.hid (fun (w4 : World) (hb : Below wc.heap.size wc w4) => rlen_any w4 (hPc.below hb).r (by omega))
        have HCP := Lib.hid (fun (w4 : World) (hb : Below wc.heap.size wc w4) => caps_6 (hPc.below hb).t)
        have hl := lens_6 (hPc.below (Below.refl _ _).drew).t hn
        rw [hcl] at hl
        have HL := Lib.hid hl
        have hS0 : P4 cb rb A2.ps.length xc xa wc.drew := HCB.out _ (Below.refl _ _).drew
        have HPC := Lib.hid (show PlayR (w.alloc resO) ab rb C S2 U2 A2 (k + 1) wc ∧ (∀ q, S2 q ∨ U2 q → q < wc.heap.size) from ⟨hPc, hSc⟩)
        clear hok hcl r0 r1 r2 hat q1 q2 q3 q4 hl hPc hSc hps
        go_wp2_with fail
        go_region_held3 (fun w' => P4 cb rb A2.ps.length xc xa w') (first | assumption | trivial)
          (first
            | (go_at_call 16; refine HL.out.mono ?_; rintro e w4 ⟨rfl, q, hq⟩; have hb4 : Below wc.heap.size wc w4 := (by rw [hq]; exact blw_drewN (Below.refl _ _).drew q); have hz4 : w4.heap.size = wc.heap.size := (by rw [hq]; rfl); have hS4 : P4 cb rb A2.ps.length xc xa w4 := HCB.out w4 hb4; clear hq)
            | (go_at_call 17; refine (HRL.out _ hb4).mono ?_; rintro e wx ⟨rfl, hw⟩; have hw := hw.symm; subst hw)
            | (go_at_call 18; refine (HCP.out _ hb4).mono ?_; rintro e wx ⟨rfl, hw⟩; have hw := hw.symm; subst hw))
        clear HL HRL HCP hS0
        have HALL := Lib.hid (all_any (some ⟨ab, 0, none⟩) (w4.alloc (.cells #[.int .i64 0] 3)))
        have hR3 : RnR wc ab 0 ((w4.alloc (.cells #[.int .i64 0] 3)).alloc (.cells #[.pointer (some ⟨ab, 0, none⟩)] 23)) :=
          ⟨(hb4.alloc (Nat.le_of_eq hz4.symm) _).alloc (by simp only [World.size_alloc]; omega) _, al_old (by simp only [World.size_alloc]; omega) (al_new hz4.symm), al_new (by simp only [World.size_alloc]; omega)⟩
        go_wp2_with (go_at_call 19; refine HALL.out.mono ?_; rintro e wx ⟨rfl, hw⟩; subst hw)
        generalize (w4.alloc (.cells #[.int .i64 0] 3)).alloc (.cells #[.pointer (some ⟨ab, 0, none⟩)] 23) = W3 at *
        have hx3 := lt_of_heap hR3.bx
        have hz3 : wc.heap.size + 2 ≤ W3.heap.size := by omega
        have H3R := Lib.hid hR3
        clear hS4 hb4 hz4 HALL g2 k0 k1
        refine (wpIn_wide (n := 9)).1 ?_
        refine wpIn_rangeFunc_ownF (α := Nat) (encs := fun x => #[Value.int .i64 (x : Nat), .int .i64 (valA A2 x)]) (Kp := KpT wc.heap.size (wc.heap.size + 1)) (S := fun ys => ys = idsA A2) (Sp := fun pre => pre <+: idsA A2) (N := (idsA A2).length) (w0 := W3) rfl (by decide)
          (gf := 31) (lb := #[.pointer (some ⟨wc.heap.size + 1, 0, none⟩)]) rfl trivial (enters_of Try.func31 (by kernel_rfl) rfl) ?seq (fun h k => h.trans k) (kpT_b hR3.bel.size hx3) (Below.refl _ _) (fun _ => rfl)
          (fun pre W => pre = (idsA A2).take pre.length ∧ RnR wc ab (nextA pre) W)
          (fun _ pre _ => ¬ pre <+: idsA A2)
          (fun pre A B row hs hg hr => ⟨hs.1, hs.2.own hz3 hg (fun r e => (hr r e).1)⟩)
          (fun _ _ _ _ _ hs _ _ => hs)
          ⟨rfl, hR3⟩ (fun x => { tmps := #[.slice (some ⟨lb, lo, none⟩) ls.length lc, undef, .pointer (some ⟨w.heap.size, 0, none⟩), .pointer (some ⟨ab, 0, none⟩), .pointer (some ⟨cb, 0, none⟩), undef, .pointer (some ⟨xb, 0, none⟩), .int .i64 (e7), u8, u9, .pointer (some ⟨wc.heap.size, 0, none⟩), .int .i64 ((x : Nat)), .int .i64 (valA A2 x), .pointer (some ⟨ab, 0, none⟩), .agg #[.slice none 0 0, .slice none 0 0, .slice none 0 0], .pointer (some ⟨rb, 0, none⟩), .pointer (some ⟨ab, 0, none⟩), .bool false, .bool false, .slice (some ⟨lb, lo, none⟩) ls.length lc, .int .i64 ((ls.length : Nat)), .bool false, .bool false, undef, undef, undef, undef, undef, .slice (some ⟨lb, lo, none⟩) ls.length lc, .int .i64 ((ls.length : Nat)), .int .i64 ((k : Nat)), u31, u32, u33, u34, u35, u36, u37, u38, u39, u40, u41, u42, u43, u44, u45, u46, u47, u48, u49, u50, u51, u52, u53, u54, u55, u56, u57, u58, u59, u60, u61, u62, u63, u64, u65, u66, u67, u68, u69, u70, u71, u72, u73, u74, u75, u76, u77, u78, u79, u80, u81, u82, u83, u84, u85, u86, u87, u88, u89, u90, u91, u92, u93, u94, u95, u96, u97, u98, u99, u100, u101, u102, u103, u104, u105, u106, u107, u108, u109, u110, u111, u112, u113, u114, u115, u116, u117, u118, u119, u120, .pointer (some ⟨ab, 0, none⟩), .int .i64 ((cnt A2.ps : Nat)), .pointer (some ⟨rb, 0, none⟩), .int .i64 ((cnt A2.ps : Nat)), .bool false, .bool false, .pointer (some ⟨ab, 0, none⟩), .int .i64 ((A2.ps.length : Nat)), .pointer (some ⟨rb, 0, none⟩), .pointer (some ⟨rb, 0, none⟩), .pointer (some ⟨rb, 0, none⟩), .slice xa A2.ps.length xc, .int .i64 ((A2.ps.length : Nat)), .bool false, .bool false, .pointer (some ⟨ab, 0, none⟩), .func (.func 31) #[] #[.pointer (some ⟨wc.heap.size + 1, 0, none⟩)], .int .i64 ((x : Nat)), .int .i64 (valA A2 x), u140, u141, u142, u143, u144, u145, u146, u147, u148, u149, u150, u151, u152, u153, u154, u155, u156, u157, u158, u159, u160, u161, u162, u163, u164, u165, u166, u167, u168, u169, u170, u171, u172, u173, u174, u175, u176, u177, u178, u179, u180, u181, u182, u183, u184, u185, u186, u187, u188, u189, undef], defers := [] }) ?assign ?body ?done ?stop
        case assign =>
          intro l x W K hK
          gi_wp2
          exact hK
        case seq =>
          intro l J Jx W hW hJ hJx hY h0
          exact all1_full _ l (by decide) J Jx hY W ((hW.block _ hx3).trans hR3.bx) (HB.out W (hR3.bel.trans (hW.mono hR3.bel.size))).t (fun q hq => HPC.out.2 q (.inl hq)) hn h0
        case body =>
          rintro l pre x W ⟨hpre, hL⟩ hlt
          obtain ⟨m, hm1, hm2, hm3, hm4, hm5⟩ := ids_next hpre hlt
          have HPL := Lib.hid (⟨hpre, hm1, hm4, hm5⟩ : pre = (idsA A2).take pre.length ∧ (idsA A2)[pre.length]? = some m ∧ A2.has (m : Nat) = true ∧ ∀ j, nextA pre ≤ j → j < m → A2.has (j : Nat) = false)
          have HW := Lib.hid hL
          have HMM := Lib.hid hm2
          clear hpre hm1 hm2 hm4 hm5 hL hR3 hx3 hlt
          gi_wp2
          gi_loopw [140] (fun _ wr => ∃ j : Nat, nextA pre ≤ j ∧ j ≤ m ∧ RnR wc ab j wr ∧ KeepsOthers W wr ∧ Below wc.heap.size W wr) (fun _ wr => m - (intOf ((wr.cell? ⟨wc.heap.size, 0, none⟩).getD undef)).toNat)
          case atStart => exact ⟨_, Nat.le_refl _, HMM.out, HW.out, KeepsOthers.refl _, Below.refl _ _⟩
          case round =>
            obtain ⟨j, hj1, hj2, hL, hko, hbl⟩ := hrel
            have HHS := Lib.hid (rhas_any (j : Int) wr (HB.out wr hL.bel).r (by omega))
            obtain ⟨d0, d1, d2⟩ := hL.cells
            obtain ⟨e0, e1⟩ := HCB.out wr hL.bel
            obtain ⟨z0, z1⟩ := HRES.out wr hL.bel
            by_cases hjx : j < x
            · have g1 : decide ((j : Int) < (x : Int)) = true := by rw [decide_eq_true_iff]; omega
              by_cases hjm : j < m
              · rw [HPL.out.2.2.2 j hj1 hjm] at HHS
                have hL2 := hL.put (j + 1)
                obtain ⟨m0, -, -⟩ := hL2.cells
                have ej : ((j + 1 : Nat) : Int) = (j : Int) + 1 := by omega
                rw [ej] at m0 hL2
                have HN := Lib.hid (show RnR wc ab (j + 1) (wr.setCell ⟨wc.heap.size, 0, none⟩ (.int .i64 ((j : Int) + 1))) ∧ KeepsOthers W (wr.setCell ⟨wc.heap.size, 0, none⟩ (.int .i64 ((j : Int) + 1))) ∧ Below wc.heap.size W (wr.setCell ⟨wc.heap.size, 0, none⟩ (.int .i64 ((j : Int) + 1))) from
                  ⟨hL2, hko.trans (KeepsOthers.setCell _ _ _), hbl.setCell (p := ⟨wc.heap.size, 0, none⟩) (Nat.le_refl _) _⟩)
                clear hL hL2 hko hbl
                gi_wp2_with (refine ⟨trivial, ?_⟩; gi_at_call 9; (with_reducible refine (CallsIn.inRound l (callsIn_wide.2 HHS.out)).mono ?_); rintro e wx ⟨rfl, hw⟩; have hw := hw.symm; subst hw)
                go_roundw
                case rel => exact ⟨j + 1, by omega, by omega, HN.out⟩
                case measure => rw [m0, d0]; simp [intOf]; omega
              · obtain rfl : j = m := by omega
                rw [HPL.out.2.2.1] at HHS
                have gx : ((j : Int) != (x : Int)) = true := by simp; omega
                have hxm : x ≠ j := by omega
                have HKO := Lib.hid hko
                clear hL hbl hko
                gi_wp2_with (first
                  | (refine ⟨trivial, ?_⟩; gi_at_call 9; (with_reducible refine (CallsIn.inRound l (callsIn_wide.2 HHS.out)).mono ?_); rintro e wx ⟨rfl, hw⟩; have hw := hw.symm; subst hw)
                  | (refine ⟨trivial, ?_⟩))
                exact ⟨HKO.out.trans (KeepsOthers.setCell _ _ _), not_pre HPL.out.2.1 hxm⟩
            · have g1 : decide ((j : Int) < (x : Int)) = false := by rw [decide_eq_false_iff_not]; omega
              by_cases hxj : x = j
              · subst hxj
                have gx : ((x : Int) != (x : Int)) = false := by simp
                by_cases hjm : x = m
                · subst hjm
                  rw [HPL.out.2.2.1] at HHS
                  have hxl : x < A2.ps.length := (has_lt HPL.out.2.2.1).2 |> fun h => by omega
                  obtain ⟨xg, rfl, z2⟩ := HXS.out wr hL.bel x hxl
                  have x0 : (0 : Int) ≤ (x : Int) := by omega
                  have x1 : (x : Int) < (A2.ps.length : Int) := by omega
                  have hL2 := hL.put (x + 1)
                  have ej : ((x + 1 : Nat) : Int) = (x : Int) + 1 := by omega
                  rw [ej] at hL2
                  have FIN := Lib.hid (show KeepsOthers W (wr.setCell ⟨wc.heap.size, 0, none⟩ (.int .i64 ((x : Int) + 1))) ∧ KpT wc.heap.size (wc.heap.size + 1) W (wr.setCell ⟨wc.heap.size, 0, none⟩ (.int .i64 ((x : Int) + 1))) ∧ (pre ++ [x] = (idsA A2).take (pre ++ [x]).length ∧ RnR wc ab (nextA (pre ++ [x])) (wr.setCell ⟨wc.heap.size, 0, none⟩ (.int .i64 ((x : Int) + 1)))) from
                    ⟨hko.trans (KeepsOthers.setCell _ _ _), ⟨hbl.setCell (p := ⟨wc.heap.size, 0, none⟩) (Nat.le_refl _) _, hL2.bx.trans HW.out.bx.symm⟩, take_next HPL.out.1 HPL.out.2.1, by rw [nextA_snoc]; exact hL2⟩)
                  clear hL hbl hko hL2
                  gi_wp2_with (first
                    | (refine ⟨trivial, ?_⟩; gi_at_call 9; (with_reducible refine (CallsIn.inRound l (callsIn_wide.2 HHS.out)).mono ?_); rintro e wx ⟨rfl, hw⟩; have hw := hw.symm; subst hw)
                    | (refine ⟨trivial, ?_⟩))
                  exact FIN.out
                · rw [HPL.out.2.2.2 x hj1 (by omega)] at HHS
                  have HKO := Lib.hid hko
                  clear hL hbl hko
                  gi_wp2_with (first
                    | (refine ⟨trivial, ?_⟩; gi_at_call 9; (with_reducible refine (CallsIn.inRound l (callsIn_wide.2 HHS.out)).mono ?_); rintro e wx ⟨rfl, hw⟩; have hw := hw.symm; subst hw)
                    | (refine ⟨trivial, ?_⟩))
                  exact ⟨HKO.out.trans (KeepsOthers.setCell _ _ _), not_pre HPL.out.2.1 hjm⟩
              · have gx : ((j : Int) != (x : Int)) = true := by simp; omega
                have hxm : x ≠ m := by omega
                have HKO := Lib.hid hko
                clear hL hbl hko
                gi_wp2_with (refine ⟨trivial, ?_⟩)
                exact ⟨HKO.out.trans (KeepsOthers.setCell _ _ _), not_pre HPL.out.2.1 hxm⟩
        case done =>
          rintro D xs W hD rfl ⟨-, hL⟩ hdf
          have hnx := nextA_le A2
          have HDL := Lib.hid (show wc.heap.size < D from by omega)
          have HL := Lib.hid (show RnR wc ab (nextA (idsA A2)) W ∧ W.heap[D]? = some (.deferred (some [])) from ⟨hL, hdf⟩)
          clear hL hdf hR3 hx3 hz3 hD H3R
          go_wp2
          go_loopw [173] (fun _ wr => ∃ j : Nat, nextA (idsA A2) ≤ j ∧ j ≤ A2.ps.length ∧ RnR wc ab j wr ∧ wr.heap[D]? = some (.deferred (some []))) (fun _ wr => A2.ps.length - (intOf ((wr.cell? ⟨wc.heap.size, 0, none⟩).getD undef)).toNat)
          case atStart => exact ⟨_, Nat.le_refl _, hnx, HL.out⟩
          case round =>
            obtain ⟨j, hj1, hj2, hL, hdf⟩ := hrel
            obtain ⟨d0, d1, d2⟩ := hL.cells
            obtain ⟨e0, e1⟩ := HCB.out wr hL.bel
            by_cases hlt : j < A2.ps.length
            · have g1 : decide ((j : Int) < (A2.ps.length : Int)) = true := by rw [decide_eq_true_iff]; omega
              have HLq := Lib.hid (fun p => (show RnR wc ab j (wr.drewN p) ∧ (wr.drewN p).heap[D]? = some (.deferred (some [])) from ⟨hL.below (blw_drewN (Below.refl _ _) p), hdf⟩))
              have hno := ids_last hj1 hlt
              clear hL hdf
              go_wp2_with fail
              go_quiet (fail)
              obtain ⟨hLq, hdq⟩ := HLq.out nq
              generalize wr.drewN nq = w9 at *
              have hHS := rhas_any (j : Int) w9 (HB.out w9 hLq.bel).r (by omega)
              rw [hno] at hHS
              have HH9 := Lib.hid hHS
              obtain ⟨c0, c1, c2⟩ := hLq.cells
              obtain ⟨c4, c5⟩ := HCB.out w9 hLq.bel
              have hL2 := hLq.put (j + 1)
              have hG := grown_set (w := w9) (g := wc.heap.size) (o := 0) (.int .i64 ((j + 1 : Nat) : Int))
              have hd2 := (hG.block D (lt_of_heap hdq) (fun e => by injection e with e; subst e; rw [hLq.bn] at hdq; cases hdq)).trans hdq
              obtain ⟨m0, -, -⟩ := hL2.cells
              have ej : ((j + 1 : Nat) : Int) = (j : Int) + 1 := by omega
              rw [ej] at m0 hL2 hd2
              have HN := Lib.hid (show RnR wc ab (j + 1) (w9.setCell ⟨wc.heap.size, 0, none⟩ (.int .i64 ((j : Int) + 1))) ∧ (w9.setCell ⟨wc.heap.size, 0, none⟩ (.int .i64 ((j : Int) + 1))).heap[D]? = some (.deferred (some [])) from ⟨hL2, hd2⟩)
              clear hL2 hd2 hG hLq hdq hHS HLq
              go_wp2_with (go_at_call 9; refine HH9.out.mono ?_; rintro e wx ⟨rfl, hw⟩; have hw := hw.symm; subst hw)
              go_roundw
              case rel => exact ⟨j + 1, by omega, by omega, HN.out⟩
              case measure => rw [m0, d0]; simp [intOf]; omega
            · have g1 : decide ((j : Int) < (A2.ps.length : Int)) = false := by rw [decide_eq_false_iff_not]; omega
              have HLq := Lib.hid (fun p => (show RnR wc ab j (wr.drewN p) ∧ (wr.drewN p).heap[D]? = some (.deferred (some [])) from ⟨hL.below (blw_drewN (Below.refl _ _) p), hdf⟩))
              clear hL hdf
              go_wp2_with fail
              go_quiet (fail)
              obtain ⟨hLq, hdq⟩ := HLq.out nq
              generalize wr.drewN nq = w9 at *
              have HL9 := Lib.hid (show RnR wc ab j w9 ∧ w9.heap[D]? = some (.deferred (some [])) from ⟨hLq, hdq⟩)
              have HAL := Lib.hid (all_any (some ⟨ab, 0, none⟩) w9)
              clear hLq hdq HLq d0 d1 d2 e0 e1
              go_wp2_with (go_at_call 19; refine HAL.out.mono ?_; rintro e wx ⟨rfl, hw⟩; subst hw)
              have hbA := (Below.refl w9.heap.size w9).alloc (Nat.le_refl _) (.cells #[.pointer (some ⟨ab, 0, none⟩)] 23)
              have hbA0 := hbA.mono HL9.out.1.bel.size
              refine (wpIn_wide (n := 9)).1 ?_
              refine range_break (bx := w9.heap.size) (B0 := wc.heap.size) rfl (heap_alloc_new w9 _) (HB.out _ (HL9.out.1.bel.trans hbA0)).t (fun q hq => HPC.out.2 q (.inl hq)) (Nat.le_trans HL9.out.1.bel.size hbA.size) hn ?_
              intro D2 W9 hD2 hb9 hK2
              have hb99 := below_add hbA hb9 hbA.size
              have hLA := HL9.out.1.below hb99
              have hdA := (hb99.block D (lt_of_heap HL9.out.2)).trans HL9.out.2
              have hDD : D < D2 := by have := lt_of_heap HL9.out.2; have := hbA.size; omega
              have hPA := HB.out W9 hLA.bel
              have hz9 := hLA.bel.size
              have hcl := HCL.out.1
              have hPD : PlayR (w.alloc resO) ab rb (addC (addC C D (.deferred (some []))) D2 (.deferred (some []))) S2 U2 A2 (k + 1) W9 :=
                (hPA.add hdA (fun h => by have := HPC.out.2 D (.inl h); have := HDL.out; omega) (fun h => by have := HPC.out.2 D (.inr h); have := HDL.out; omega) (by have := HPC.out.1.bel.size; have := HDL.out; omega)).add hK2 (fun h => by have := HPC.out.2 D2 (.inl h); have := HDL.out; omega) (fun h => by have := HPC.out.2 D2 (.inr h); have := HDL.out; omega) (by have := HPC.out.1.bel.size; have := HDL.out; omega)
              have FIN := Lib.hid (show (k + 1 ≤ ls.length) ∧ PlayR (w.alloc resO) ab rb (addC (addC C D (.deferred (some []))) D2 (.deferred (some []))) S2 U2 A2 (k + 1) W9 ∧ (∀ q, S2 q ∨ U2 q → q < W9.heap.size) ∧ addC (addC C D (.deferred (some []))) D2 (.deferred (some [])) cb = some (ptrO rb) ∧ (D2 :: D :: Ds).Nodup ∧ (∀ E ∈ D2 :: D :: Ds, addC (addC C D (.deferred (some []))) D2 (.deferred (some [])) E = some (.deferred (some []))) from by
                have hdl := HDL.out
                refine ⟨by omega, hPD, fun q hq => by have := HPC.out.2 q hq; omega, ?_, ?_, ?_⟩
                · unfold addC; rw [if_neg (by omega), if_neg (by omega)]; exact HM.out.2.1
                · refine List.nodup_cons.2 ⟨fun h => ?_, List.nodup_cons.2 ⟨fun h => ?_, HM.out.2.2.1⟩⟩
                  · rcases List.mem_cons.1 h with e | h
                    · omega
                    · have := HCL.out.2 D2 h; omega
                  · have := HCL.out.2 D h; omega
                · intro E hE
                  unfold addC
                  by_cases e2 : E = D2
                  · rw [if_pos e2]
                  · rw [if_neg e2]
                    by_cases e1 : E = D
                    · rw [if_pos e1]
                    · rw [if_neg e1]
                      rcases List.mem_cons.1 hE with e | hE
                      · exact absurd e e2
                      · rcases List.mem_cons.1 hE with e | hE
                        · exact absurd e e1
                        · exact HM.out.2.2.2.1 E hE)
              clear hbA hbA0 hb9 hb99 hLA hdA hDD hPA hPD hz9 hcl HL9 HAL
              have both : ∀ {P Q : Prop}, (P → Q) → P → P ∧ Q := fun f h => ⟨h, f h⟩
              refine both (fun h => h) ?_
              have hwk : IntKind.i64.wrap ((k : Int) + 1) = (k : Int) + 1 := by rw [IntKind.wrap_i64]; omega
              go_wp2
              have ek : (k : Int) + 1 = ((k + 1 : Nat) : Int) := by omega
              rw [ek]
              refine ⟨⟨k + 1, D2 :: D :: Ds, _, S2, U2, A2, ⟨FIN.out.1, FIN.out.2.1, FIN.out.2.2.1, FIN.out.2.2.2.1, FIN.out.2.2.2.2.1, FIN.out.2.2.2.2.2, rfl⟩⟩, ?_⟩
              show ls.length - (k + 1) < ls.length - k
              omega
        case stop =>
          rintro D c pre W hD hpre hnp hdf
          exact absurd hpre hnp
    --}ROUND
  · obtain rfl : k = ls.length := by omega
    have g2 : decide ((ls.length : Int) < (ls.length : Int)) = false := by rw [decide_eq_false_iff_not]; omega
    have h0 : wr.heap[w.heap.size]? = some resO := (hP.bel.block _ (by simp)).trans (heap_alloc_new w resO)
    have HK := Lib.hid (known8_any wr)
    have HC := Lib.hid (fun (w9 : World) (hb : Below wr.heap.size wr w9) => (show w9.cell? ⟨w.heap.size, 0, none⟩ = some (.bool false) ∧ w9.frozen? ⟨w.heap.size, 0, none⟩ = false from by
      have h : w9.heap[w.heap.size]? = some resO := (hb.block _ (lt_of_heap h0)).trans h0
      exact ⟨by rw [cell_of_row w9 _ 0 _ _ _ h]; rfl, by simp [World.frozen?, h]⟩))
    have HBW := Lib.hid (show Below w.heap.size w wr from ((Below.refl w.heap.size w).alloc (Nat.le_refl _) resO).trans (hP.bel.mono (by simp)))
    have HDD := Lib.hid (show Ds.Nodup ∧ ∀ D ∈ Ds, w.heap.size + 1 ≤ D ∧ wr.heap[D]? = some (.deferred (some [])) from ⟨hnd, fun D hD => by
      obtain ⟨q1, q2, q3, q4⟩ := hP.keep D _ (hDs D hD)
      exact ⟨by simpa using q4, q1⟩⟩)
    clear hP hSU hC hnd hDs h0 hk hlt
    go_wp2_with (go_at_call 8; refine HK.out.mono ?_; rintro e w9 ⟨rfl, hb9⟩; obtain ⟨k1, k2⟩ := HC.out w9 hb9)
    have k3 := World.cell?_setCell_same' w9 ⟨w.heap.size, 0, none⟩ (.bool true) (by rw [k1]; rfl)
    have hB9 := below_add HBW.out hb9 HBW.out.size
    have hB4 := hB9.setCell (p := ⟨w.heap.size, 0, none⟩) (Nat.le_refl _) (.bool true)
    have hD4 : ∀ D ∈ Ds, w.heap.size + 1 ≤ D ∧ (w9.setCell ⟨w.heap.size, 0, none⟩ (.bool true)).heap[D]? = some (.deferred (some [])) := fun D hD => by
      obtain ⟨r1, r2⟩ := HDD.out.2 D hD
      have r3 := (hb9.block D (lt_of_heap r2)).trans r2
      exact ⟨r1, (KeepsOthers.setCell w9 ⟨w.heap.size, 0, none⟩ (.bool true)).same D _ r3 rfl⟩
    have hlt4 : w.heap.size < (w9.setCell ⟨w.heap.size, 0, none⟩ (.bool true)).heap.size := World.block_lt_of_cell? _ _ k3
    refine leaves_marks (lo := w.heap.size + 1) Ds _ HDD.out.1 hD4 ?_
    intro W' hW'
    have k6 : W'.cell? ⟨w.heap.size, 0, none⟩ = some (.bool true) := (hW'.cell (p := ⟨w.heap.size, 0, none⟩) (by show w.heap.size < w.heap.size + 1; omega)).trans k3
    refine ⟨.bool true, ?_, rfl, hB4.trans (hW'.mono (by omega))⟩
    simp [results, Try.f3, go_sem, k6]
end Go.Proofs.Yteilhjkkgdgbkaa
