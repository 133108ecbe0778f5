
import Derived.Test.YtoiomijchchlnaaF4
/- F5: what may be of each kind -/
namespace Go.Proofs.Ytoiomijchchlnaa
open Go.RowKit
set_option linter.unusedVariables false

/-- An op's length, by its parts. -/
def lenK (k n : Int) (rl : Nat) : Int := if k = 2 then (rl : Int) else if 0 ≤ n then n else 0
theorem lenK_any (k n : Int) (rl : Nat) (ra : Option Addr) (rc : Nat) (sa : Option Addr) (sl sc : Nat) (pa : Option Addr) (pl pc : Nat) (lx : Int) (h : lenK k n rl = lx) (w : World) :
    Calls Try.prog 24 #[.agg (opcs k n ra rl rc sa sl sc pa pl pc)] w fun e w' => e = .returned (.int .i64 lx) ∧ Below w.heap.size w w' := by
  rw [← h]; exact length_any k n rl ra rc sa sl sc pa pl pc w

set_option maxRecDepth 100000 in
set_option maxHeartbeats 2000000 in
theorem mayRetain_any (v : Value) (ks : List Key) (k n : Int) (pt : List Chg) (ra : Option Addr) (rl rc : Nat) (sa : Option Addr) (sl sc : Nat) (pa : Option Addr) (pl pc : Nat) (w : World)
    (hs : Sch w v ks) (hp : Crow w (.slice pa pl pc) pt) (hW : ∀ a ∈ pt, ChgW a) :
    Calls Try.prog 18 #[v, .agg (opcs k n ra rl rc sa sl sc pa pl pc)] w fun e w' => e = .returned (.int .i64 (if lenK k n rl < 1 ∨ 0 < rl ∨ 0 < sl then 3 else may6 ks pt)) ∧ Below w.heap.size w w' := by
  have HB := Lib.hid (kbelow_one w (.cells (opcs k n ra rl rc sa sl sc pa pl pc) 41))
  have HX := Lib.hid (OBox.box k n ra rl rc sa sl sc pa pl pc w 41)
  have HM := Lib.hid (fun W (hb : Below w.heap.size w W) => may_any6 v ks (.slice pa pl pc) pt W (hs.below hb (Nat.le_refl _)) (hp.below hb (Nat.le_refl _)) hW)
  obtain ⟨lx, hlx⟩ : ∃ l, lenK k n rl = l := ⟨_, rfl⟩
  have HL := Lib.hid (lenK_any k n rl ra rc sa sl sc pa pl pc lx hlx)
  rw [hlx]
  clear hs hp hW hlx
  generalize may6 ks pt = m at *
  by_cases h1 : lx < 1
  · rw [if_pos (.inl h1)]
    have d1 : decide (lx < 1) = true := decide_eq_true h1
    clear h1
    go_enter Try.func18, Try.ntmps18
    go_wp2_with (first
      | (go_at_call 24; (with_reducible refine (HL.out _).mono ?_); rintro e w1 ⟨rfl, hb⟩; have HB1 := Lib.hid (below_add HB.out hb HB.out.size); obtain ⟨c0, c1, c2, c3, c4⟩ := HX.out.stay hb; clear hb))
    go_ret
    exact ⟨rfl, HB1.out⟩
  have d1 : decide (lx < 1) = false := decide_eq_false h1
  by_cases h2 : 0 < rl
  · rw [if_pos (.inr (.inl h2))]
    have d2 : decide (0 < rl) = true := decide_eq_true h2
    have d3 : decide ((0 : Int) < (rl : Int)) = true := decide_eq_true (by omega)
    clear h1 h2
    go_enter Try.func18, Try.ntmps18
    go_wp2_with (first
      | (go_at_call 24; (with_reducible refine (HL.out _).mono ?_); rintro e w1 ⟨rfl, hb⟩; have HB1 := Lib.hid (below_add HB.out hb HB.out.size); obtain ⟨c0, c1, c2, c3, c4⟩ := HX.out.stay hb; clear hb))
    go_ret
    exact ⟨rfl, HB1.out⟩
  obtain rfl : rl = 0 := by omega
  by_cases h3 : 0 < sl
  · rw [if_pos (.inr (.inr h3))]
    have d2 : decide (0 < sl) = true := decide_eq_true h3
    have d3 : decide ((0 : Int) < (sl : Int)) = true := decide_eq_true (by omega)
    clear h1 h2 h3
    go_enter Try.func18, Try.ntmps18
    go_wp2_with (first
      | (go_at_call 24; (with_reducible refine (HL.out _).mono ?_); rintro e w1 ⟨rfl, hb⟩; have HB1 := Lib.hid (below_add HB.out hb HB.out.size); obtain ⟨c0, c1, c2, c3, c4⟩ := HX.out.stay hb; clear hb))
    go_ret
    exact ⟨rfl, HB1.out⟩
  obtain rfl : sl = 0 := by omega
  rw [if_neg (by omega)]
  clear h1 h2 h3
  go_enter Try.func18, Try.ntmps18
  go_wp2_with (first
    | (go_at_call 24; (with_reducible refine (HL.out _).mono ?_); rintro e w1 ⟨rfl, hb⟩; have HB1 := Lib.hid (below_add HB.out hb HB.out.size); obtain ⟨c0, c1, c2, c3, c4⟩ := HX.out.stay hb; clear hb)
    | (go_at_call 25; (with_reducible refine (HM.out _ HB1.out).mono ?_); rintro e w2 ⟨rfl, hb⟩; have HB2 := Lib.hid (below_add HB1.out hb HB1.out.size); clear hb))
  go_ret
  exact ⟨rfl, HB2.out⟩

set_option maxRecDepth 100000 in
set_option maxHeartbeats 2000000 in
theorem mayDelete_any (k n : Int) (ra : Option Addr) (rl rc : Nat) (sa : Option Addr) (sl sc : Nat) (pa : Option Addr) (pl pc : Nat) (w : World) :
    Calls Try.prog 20 #[.agg (opcs k n ra rl rc sa sl sc pa pl pc)] w fun e w' => e = .returned (.int .i64 (if lenK k n rl < 1 ∨ 0 < rl ∨ 0 < sl ∨ 0 < pl then 3 else 0)) ∧ Below w.heap.size w w' := by
  have HB := Lib.hid (kbelow_one w (.cells (opcs k n ra rl rc sa sl sc pa pl pc) 41))
  have HX := Lib.hid (OBox.box k n ra rl rc sa sl sc pa pl pc w 41)
  obtain ⟨lx, hlx⟩ : ∃ l, lenK k n rl = l := ⟨_, rfl⟩
  have HL := Lib.hid (lenK_any k n rl ra rc sa sl sc pa pl pc lx hlx)
  rw [hlx]
  clear hlx
  by_cases h1 : lx < 1
  · rw [if_pos (.inl h1)]
    have d1 : decide (lx < 1) = true := decide_eq_true h1
    clear h1
    go_enter Try.func20, Try.ntmps20
    go_wp2_with (first
      | (go_at_call 24; (with_reducible refine (HL.out _).mono ?_); rintro e w1 ⟨rfl, hb⟩; have HB1 := Lib.hid (below_add HB.out hb HB.out.size); obtain ⟨c0, c1, c2, c3, c4⟩ := HX.out.stay hb; clear hb))
    go_ret
    exact ⟨rfl, HB1.out⟩
  have d1 : decide (lx < 1) = false := decide_eq_false h1
  by_cases h2 : 0 < rl
  · rw [if_pos (.inr (.inl h2))]
    have d2 : decide (0 < rl) = true := decide_eq_true h2
    have d3 : decide ((0 : Int) < (rl : Int)) = true := decide_eq_true (by omega)
    clear h1 h2
    go_enter Try.func20, Try.ntmps20
    go_wp2_with (first
      | (go_at_call 24; (with_reducible refine (HL.out _).mono ?_); rintro e w1 ⟨rfl, hb⟩; have HB1 := Lib.hid (below_add HB.out hb HB.out.size); obtain ⟨c0, c1, c2, c3, c4⟩ := HX.out.stay hb; clear hb))
    go_ret
    exact ⟨rfl, HB1.out⟩
  obtain rfl : rl = 0 := by omega
  by_cases h3 : 0 < sl
  · rw [if_pos (.inr (.inr (.inl h3)))]
    have d2 : decide (0 < sl) = true := decide_eq_true h3
    have d3 : decide ((0 : Int) < (sl : Int)) = true := decide_eq_true (by omega)
    clear h1 h2 h3
    go_enter Try.func20, Try.ntmps20
    go_wp2_with (first
      | (go_at_call 24; (with_reducible refine (HL.out _).mono ?_); rintro e w1 ⟨rfl, hb⟩; have HB1 := Lib.hid (below_add HB.out hb HB.out.size); obtain ⟨c0, c1, c2, c3, c4⟩ := HX.out.stay hb; clear hb))
    go_ret
    exact ⟨rfl, HB1.out⟩
  obtain rfl : sl = 0 := by omega
  by_cases h4 : 0 < pl
  · rw [if_pos (.inr (.inr (.inr h4)))]
    have d2 : decide (0 < pl) = true := decide_eq_true h4
    have d3 : decide ((0 : Int) < (pl : Int)) = true := decide_eq_true (by omega)
    clear h1 h2 h3 h4
    go_enter Try.func20, Try.ntmps20
    go_wp2_with (first
      | (go_at_call 24; (with_reducible refine (HL.out _).mono ?_); rintro e w1 ⟨rfl, hb⟩; have HB1 := Lib.hid (below_add HB.out hb HB.out.size); obtain ⟨c0, c1, c2, c3, c4⟩ := HX.out.stay hb; clear hb))
    go_ret
    exact ⟨rfl, HB1.out⟩
  obtain rfl : pl = 0 := by omega
  rw [if_neg (by omega)]
  clear h1 h2 h3 h4
  go_enter Try.func20, Try.ntmps20
  go_wp2_with (first
    | (go_at_call 24; (with_reducible refine (HL.out _).mono ?_); rintro e w1 ⟨rfl, hb⟩; have HB1 := Lib.hid (below_add HB.out hb HB.out.size); obtain ⟨c0, c1, c2, c3, c4⟩ := HX.out.stay hb; clear hb))
  go_ret
  exact ⟨rfl, HB1.out⟩

set_option maxRecDepth 100000 in
set_option maxHeartbeats 2000000 in
theorem mayInsert_any (v : Value) (ks : List Key) (k n : Int) (rs : List Int) (st : List Att) (ra : Option Addr) (rl rc : Nat) (sa : Option Addr) (sl sc : Nat) (pa : Option Addr) (pl pc : Nat) (w : World)
    (hs : Sch w v ks) (hr : Ints .i32 w (.slice ra rl rc) rs) (ha : Arow w (.slice sa sl sc) st) (hW : ∀ a ∈ st, AttW a) (hrl : rs.length = rl) :
    Calls Try.prog 19 #[v, .agg (opcs k n ra rl rc sa sl sc pa pl pc)] w fun e w' => e = .returned (.int .i64 (if lenK k n rl < 1 ∨ n ≠ 0 ∨ 0 < pl then 3 else if rs.all mayB then may5 ks st else 3)) ∧ Below w.heap.size w w' := by
  have HB := Lib.hid (kbelow_one w (.cells (opcs k n ra rl rc sa sl sc pa pl pc) 41))
  have HX := Lib.hid (OBox.box k n ra rl rc sa sl sc pa pl pc w 41)
  have HM := Lib.hid (fun W (hb : Below w.heap.size w W) => may_any5 v ks (.slice sa sl sc) st W (hs.below hb (Nat.le_refl _)) (ha.below hb (Nat.le_refl _)) hW)
  have HR := Lib.hid (fun W (hb : Below w.heap.size w W) => hr.below hb)
  have HRM := Lib.hid (fun x w => may_any x w)
  have hl63 := hr.len
  obtain ⟨lx, hlx⟩ : ∃ l, lenK k n rl = l := ⟨_, rfl⟩
  have HL := Lib.hid (lenK_any k n rl ra rc sa sl sc pa pl pc lx hlx)
  rw [hlx]
  clear hs hr ha hW hlx
  generalize may5 ks st = m at *
  by_cases h1 : lx < 1
  · rw [if_pos (.inl h1)]
    have d1 : decide (lx < 1) = true := decide_eq_true h1
    clear h1 hrl hl63
    go_enter Try.func19, Try.ntmps19
    go_wp2_with (first
      | (go_at_call 24; (with_reducible refine (HL.out _).mono ?_); rintro e w1 ⟨rfl, hb⟩; have HB1 := Lib.hid (below_add HB.out hb HB.out.size); obtain ⟨c0, c1, c2, c3, c4⟩ := HX.out.stay hb; clear hb))
    go_ret
    exact ⟨rfl, HB1.out⟩
  have d1 : decide (lx < 1) = false := decide_eq_false h1
  by_cases h2 : n ≠ 0
  · rw [if_pos (.inr (.inl h2))]
    have e0 : (n == 0) = false := by simpa using h2
    have e1 : (n != 0) = true := by simpa using h2
    clear h1 h2 hrl hl63
    go_enter Try.func19, Try.ntmps19
    go_wp2_with (first
      | (go_at_call 24; (with_reducible refine (HL.out _).mono ?_); rintro e w1 ⟨rfl, hb⟩; have HB1 := Lib.hid (below_add HB.out hb HB.out.size); obtain ⟨c0, c1, c2, c3, c4⟩ := HX.out.stay hb; clear hb))
    go_ret
    exact ⟨rfl, HB1.out⟩
  obtain rfl : n = 0 := by omega
  by_cases h4 : 0 < pl
  · rw [if_pos (.inr (.inr h4))]
    have d2 : decide (0 < pl) = true := decide_eq_true h4
    have d3 : decide ((0 : Int) < (pl : Int)) = true := decide_eq_true (by omega)
    clear h1 h2 h4 hrl hl63
    go_enter Try.func19, Try.ntmps19
    go_wp2_with (first
      | (go_at_call 24; (with_reducible refine (HL.out _).mono ?_); rintro e w1 ⟨rfl, hb⟩; have HB1 := Lib.hid (below_add HB.out hb HB.out.size); obtain ⟨c0, c1, c2, c3, c4⟩ := HX.out.stay hb; clear hb))
    go_ret
    exact ⟨rfl, HB1.out⟩
  obtain rfl : pl = 0 := by omega
  rw [if_neg (by omega)]
  clear h1 h2 h4
  obtain ⟨res, hres⟩ : ∃ r, (if rs.all mayB then m else 3) = r := ⟨_, rfl⟩
  rw [hres]
  have HT := Lib.hid (show rs.all mayB = true → m = res from fun h => by rw [← hres, if_pos h])
  have HF := Lib.hid (show rs.all mayB = false → 3 = res from fun h => by rw [← hres, if_neg (by rw [h]; exact Bool.false_ne_true)])
  clear hres
  by_cases hr0 : 0 < rs.length
  rotate_left
  · obtain rfl : rs = [] := List.eq_nil_of_length_eq_zero (by omega)
    obtain rfl : rl = 0 := hrl.symm
    clear hr0 hrl hl63
    go_enter Try.func19, Try.ntmps19
    go_wp2_with (first
      | (go_at_call 24; (with_reducible refine (HL.out _).mono ?_); rintro e w1 ⟨rfl, hb⟩; have HB1 := Lib.hid (below_add HB.out hb HB.out.size); obtain ⟨c0, c1, c2, c3, c4⟩ := HX.out.stay hb; clear hb))
    refine wp_loop_rounds 1 ?_
    rw [rounds_succ]
    go_wp2_with (go_at_call 27; (with_reducible refine (HM.out _ HB1.out).mono ?_); rintro e w2 ⟨rfl, hb⟩; have HB2 := Lib.hid (below_add HB1.out hb HB1.out.size); clear hb)
    go_ret
    exact ⟨ret_int (HT.out rfl), HB2.out⟩
  have hrow := HR.out w (Below.refl _ _)
  obtain ⟨b1, o1, rfl, -, -, -, hat⟩ := Ints.opened hrow hr0
  have hbl : b1 < w.heap.size := World.block_lt_of_cell? w _ (hat 0 hr0)
  have HAT := Lib.hid hat
  subst hrl
  clear hrow hat
  go_enter Try.func19, Try.ntmps19
  go_wp2_with (first
    | (go_at_call 24; (with_reducible refine (HL.out _).mono ?_); rintro e w1 ⟨rfl, hb⟩; have HB1 := Lib.hid (below_add HB.out hb HB.out.size); have HX1 := Lib.hid (HX.out.stay hb); obtain ⟨c0, c1, c2, c3, c4⟩ := HX1.out; clear hb))
  clear c0 c1 c2 c3 c4
  go_loopw [24] (fun s24 wr => ∃ k : Nat, k ≤ rs.length ∧ s24 = .int .i64 k ∧ Hid ((rs.take k).all mayB = true ∧ Below w1.heap.size w1 wr)) (fun s24 _ => rs.length - (intOf s24).toNat)
  case atStart => exact ⟨0, Nat.zero_le _, rfl, Lib.hid ⟨rfl, Below.refl _ _⟩⟩
  case round =>
    obtain ⟨j, hj, rfl, HI⟩ := hrel
    have HI1 := Lib.hid HI.out.1
    have HBW := Lib.hid (below_add HB1.out HI.out.2 HB1.out.size)
    have HB9 := Lib.hid HI.out.2
    clear HI
    by_cases hlt : j < rs.length
    · have hc := HAT.out j hlt
      have c0 := (HBW.out.cell (p := ⟨b1, o1 + j, none⟩) hbl).trans hc
      have hY := fun h => all_step (q := mayB) hlt HI1.out h
      have hN := fun h => all_bad (q := mayB) hlt h
      have hg : rs.getD j 0 = rs[j] := by simp [List.getD, List.getElem?_eq_getElem hlt]
      try rw [hg] at c0
      have HLT := Lib.hid hlt
      have HMX := Lib.hid (HRM.out rs[j])
      generalize rs[j] = x at *
      generalize mayB x = mb at *
      clear hc hg
      cases mb
      · have HE := Lib.hid (hN rfl)
        clear hY hN
        go_wp2_with (go_at_call 26; (with_reducible refine (HMX.out _).mono ?_); rintro e w2 ⟨rfl, rfl⟩)
        go_ret
        exact ⟨ret_int (HF.out HE.out), HBW.out⟩
      · have HE := Lib.hid (hY rfl)
        clear hY hN
        go_wp2_with (go_at_call 26; (with_reducible refine (HMX.out _).mono ?_); rintro e w2 ⟨rfl, rfl⟩)
        go_roundw
        case rel => exact ⟨j + 1, HLT.out, by go_num, Lib.hid ⟨HE.out, HB9.out⟩⟩
        case measure => have := HLT.out; simp [intOf]; omega
    · obtain rfl : j = rs.length := by omega
      have HE := Lib.hid (all_end HI1.out)
      obtain ⟨c0, c1, c2, c3, c4⟩ := HX1.out.stay HB9.out
      go_wp2_with (go_at_call 27; (with_reducible refine (HM.out _ HBW.out).mono ?_); rintro e w2 ⟨rfl, hb⟩; have HB2 := Lib.hid (below_add HBW.out hb HBW.out.size); clear hb)
      go_ret
      exact ⟨ret_int (HT.out HE.out), HB2.out⟩
end Go.Proofs.Ytoiomijchchlnaa
