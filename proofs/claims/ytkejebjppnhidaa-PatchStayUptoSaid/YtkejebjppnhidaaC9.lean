
import Derived.Test.YtkejebjppnhidaaC8
/- C9: May, the reference's Find -/
namespace Go.Proofs.Ytkejebjppnhidaa
open Go.RowKit
set_option linter.unusedVariables false

/-- Is each key one of the schema's? -/
def isIn (ks : List Key) (c : Chg) : Bool := (fnd ks c.key).isSome
def may6 (ks : List Key) (xs : List Chg) : Int := if wf6 xs && okV (ats xs) then (if okF5 ks (ats xs) && xs.all (isIn ks) then 0 else 4) else 3
theorem may6_bad {ks : List Key} {xs : List Chg} (h : wf6 xs = false) : may6 ks xs = 3 := by unfold may6; rw [h]; rfl
theorem may6_out {ks : List Key} {xs : List Chg} (h : wf6 xs = true) (hv : okV (ats xs) = true) (hf : okF5 ks (ats xs) = true) (hi : xs.all (isIn ks) = false) : may6 ks xs = 4 := by unfold may6; rw [h, hv, hf, hi]; rfl
theorem may6_ok {ks : List Key} {xs : List Chg} (h : wf6 xs = true) (hv : okV (ats xs) = true) (hf : okF5 ks (ats xs) = true) (hi : xs.all (isIn ks) = true) : may6 ks xs = 0 := by unfold may6; rw [h, hv, hf, hi]; rfl
theorem ats_sub {xs : List Chg} : ∀ a ∈ ats xs, ∃ c ∈ xs, c.g = false ∧ a = toA c := by
  intro a ha
  obtain ⟨c, hc, rfl⟩ := List.mem_map.1 ha
  obtain ⟨h1, h2⟩ := List.mem_filter.1 hc
  exact ⟨c, h1, by simpa using h2, rfl⟩
theorem ats_rise {xs : List Chg} (h : RiseC xs) : Rise (ats xs) := by
  unfold ats Rise
  rw [List.pairwise_map]
  exact (h.sublist List.filter_sublist)
theorem ats_w {xs : List Chg} (h : ∀ c ∈ xs, ChgW c) : ∀ a ∈ ats xs, AttW a := by
  intro a ha
  obtain ⟨c, hc, -, rfl⟩ := ats_sub a ha
  have := h c hc
  exact ⟨this.key, this.k, this.n, this.f, this.s⟩
/-- What layer 5 tells of the part that is not gone. -/
theorem may5_ats {ks : List Key} {xs : List Chg} (h : wf6 xs = true) : may5 ks (ats xs) = if okV (ats xs) then (if okF5 ks (ats xs) then 0 else 4) else 3 := by
  obtain ⟨h1, h2, -⟩ := wf6_parts h
  have hl := ats_len xs
  unfold may5 wf5
  rw [decide_eq_true (ats_rise h1), decide_eq_true (show (ats xs).length ≤ 64 by omega)]
  simp
theorem in_step {ks : List Key} {xs : List Chg} {k : Nat} (h : k < xs.length) (hp : (xs.take k).all (isIn ks) = true) (hx : isIn ks xs[k] = true) : (xs.take (k + 1)).all (isIn ks) = true := by rw [tsnoc h, List.all_append, hp]; simpa using hx
theorem in_bad {ks : List Key} {xs : List Chg} {k : Nat} (h : k < xs.length) (hx : isIn ks xs[k] = false) : xs.all (isIn ks) = false := by rw [List.all_eq_false]; exact ⟨_, List.getElem_mem h, by rw [hx]; exact Bool.false_ne_true⟩

set_option maxRecDepth 100000 in
set_option maxHeartbeats 1000000 in
theorem may_any6 (p : Value) (ks : List Key) (v : Value) (xs : List Chg) (w : World) (hs : Sch w p ks) (hv : Crow w v xs) (hW : ∀ a ∈ xs, ChgW a) :
    Calls Try.prog 13 #[p, v] w fun e w' => e = .returned (.int .i64 (may6 ks xs)) ∧ Below w.heap.size w w' := by
  have hl := hv.len
  have hwf := wf6_any v xs w hv
  cases hw6 : wf6 xs
  · rw [hw6] at hwf
    have HWF := Lib.hid hwf
    have HN := Lib.hid (may6_bad (ks := ks) hw6)
    clear hv hs hW hwf hw6
    go_enter Try.func13, Try.ntmps13
    go_wp2_with (go_at_call 33; refine HWF.out.mono ?_; rintro e w1 ⟨rfl, hb1⟩)
    go_ret
    exact ⟨ret_may HN.out.symm, hb1⟩
  rw [hw6] at hwf
  have HWF := Lib.hid hwf
  have H6 := Lib.hid hw6
  have hl64 := (wf6_parts hw6).2.1
  have HA := Lib.hid (fun w1 (h : Below w.heap.size w w1) => attributes_any v xs w1 (hv.below h (Nat.le_refl _)) (by omega))
  have hm := may5_ats (ks := ks) hw6
  have HM := Lib.hid (fun u w1 (h : Below w.heap.size w w1) (hu : Arow w1 u (ats xs)) => may_any5 p ks u (ats xs) w1 (hs.below h (Nat.le_refl _)) hu (ats_w hW))
  clear hwf hw6
  cases hV : okV (ats xs)
  · rw [hV] at hm
    simp only [Bool.false_eq_true, if_false] at hm
    rw [hm] at HM
    have HN := Lib.hid (show may6 ks xs = 3 by unfold may6; rw [hV, Bool.and_false]; rfl)
    clear hv hs hW hm hV
    go_enter Try.func13, Try.ntmps13
    go_wp2_with (first
      | (go_at_call 33; refine HWF.out.mono ?_; rintro e w1 ⟨rfl, hb1⟩)
      | (go_at_call 35; refine (HA.out _ hb1).mono ?_; rintro e w2 ⟨u2, rfl, ho2, hb2⟩; have hb12 := below_add hb1 hb2 hb1.size)
      | (go_at_call 34; refine (HM.out u2 _ hb12 (Own5.row ho2)).mono ?_; rintro e w3 ⟨rfl, hb3⟩))
    go_ret
    exact ⟨ret_may HN.out.symm, below_add hb12 hb3 hb12.size⟩
  cases hF : okF5 ks (ats xs)
  · rw [hV, hF] at hm
    simp only [Bool.false_eq_true, if_false, if_true] at hm
    rw [hm] at HM
    have HN := Lib.hid (show may6 ks xs = 4 by have := H6.out; unfold may6; rw [this, hV, hF]; rfl)
    clear hv hs hW hm hV hF
    go_enter Try.func13, Try.ntmps13
    go_wp2_with (first
      | (go_at_call 33; refine HWF.out.mono ?_; rintro e w1 ⟨rfl, hb1⟩)
      | (go_at_call 35; refine (HA.out _ hb1).mono ?_; rintro e w2 ⟨u2, rfl, ho2, hb2⟩; have hb12 := below_add hb1 hb2 hb1.size)
      | (go_at_call 34; refine (HM.out u2 _ hb12 (Own5.row ho2)).mono ?_; rintro e w3 ⟨rfl, hb3⟩))
    go_ret
    exact ⟨ret_may HN.out.symm, below_add hb12 hb3 hb12.size⟩
  rw [hV, hF] at hm
  simp only [if_true] at hm
  rw [hm] at HM
  have H6 := Lib.hid (⟨H6.out, hV, hF⟩ : wf6 xs = true ∧ okV (ats xs) = true ∧ okF5 ks (ats xs) = true)
  clear hm hV hF
  obtain ⟨a1, cap1, rfl⟩ := hv.shape
  by_cases h0 : 0 < xs.length
  · obtain ⟨b1, o1, rfl, -, -, -, hbl, hat⟩ := Crow.opn hv h0
    have HAT := Lib.hid hat
    have HWA := Lib.hid hW
    have HS := Lib.hid hs
    clear hv hat hW hs
    go_enter Try.func13, Try.ntmps13
    go_wp2_with (first
      | (go_at_call 33; refine HWF.out.mono ?_; rintro e w1 ⟨rfl, hb1⟩)
      | (go_at_call 35; refine (HA.out _ hb1).mono ?_; rintro e w2 ⟨u2, rfl, ho2, hb2⟩; have hb12 := below_add hb1 hb2 hb1.size)
      | (go_at_call 34; refine (HM.out u2 _ hb12 (Own5.row ho2)).mono ?_; rintro e w3 ⟨rfl, hb3⟩))
    have HB3 := Lib.hid (below_add hb12 hb3 hb12.size)
    clear hb1 hb12 hb3 ho2 hb2
    go_loopw [22] (fun s12 wr => ∃ k : Nat, k ≤ xs.length ∧ s12 = .int .i64 k ∧ Hid ((xs.take k).all (isIn ks) = true) ∧ Below w.heap.size w wr) (fun s12 _ => xs.length - (intOf s12).toNat)
    case atStart => exact ⟨0, Nat.zero_le _, rfl, Lib.hid rfl, HB3.out⟩
    case round =>
      obtain ⟨k, hk, rfl, HP, hb⟩ := hrel
      by_cases hlt : k < xs.length
      · obtain ⟨c0, c1, c2, c3, c4, c5⟩ := (HAT.out k hlt).below hb hbl
        have hw := (HWA.out _ (List.getElem_mem hlt)).key
        have HF := Lib.hid (fun w1 (h1 : Below w.heap.size w w1) => find_any p ks xs[k].key w1 (HS.out.below h1 (Nat.le_refl _)) hw)
        have hFS := fun h => in_step (ks := ks) hlt HP.out h
        have hFB := fun h => may6_out H6.out.1 H6.out.2.1 H6.out.2.2 (in_bad (ks := ks) hlt h)
        have hIN : isIn ks xs[k] = (fnd ks xs[k].key).isSome := rfl
        rw [hIN] at hFS hFB
        clear hw hIN
        generalize xs[k] = x at *
        obtain ⟨x1, x0, x2, x3, x4, x5⟩ := x
        simp only at c0 c1 c2 c3 c4 c5 HF hFS hFB
        have hB1 := hb.alloc hb.size (.cells (cca ⟨x1, x0, x2, x3, x4, x5⟩) 52)
        have HFX := Lib.hid (HF.out _ hB1)
        have HB := Lib.hid hB1
        clear HF hB1 hb
        cases hf : fnd ks x1 with
        | none =>
          have h3 := HFX.out
          rw [fndV_none hf] at h3
          have HF3 := Lib.hid h3
          have HN := Lib.hid (hFB (by rw [hf]; rfl))
          clear hFS hFB h3 HFX hf
          go_wp2_with (go_at_call 36; refine HF3.out.mono ?_; rintro e w2 ⟨rfl, hb2⟩)
          have hb9 := below_add HB.out hb2 HB.out.size
          go_ret
          exact ⟨ret_may HN.out.symm, hb9.alloc hb9.size _⟩
        | some key =>
          have h3 := HFX.out
          rw [fndV_some hf] at h3
          have HF3 := Lib.hid h3
          have HN := Lib.hid (hFS (by rw [hf]; rfl))
          clear hFS hFB h3 HFX hf
          obtain ⟨y1, y2, y3, y4, y5, y6⟩ := key
          go_wp2_with (go_at_call 36; refine HF3.out.mono ?_; rintro e w2 ⟨rfl, hb2⟩)
          have hb9 := below_add HB.out hb2 HB.out.size
          have HB9 := Lib.hid (hb9.alloc hb9.size (.cells (kca ⟨y1, y2, y3, y4, y5, y6⟩) 70))
          clear hb9 hb2
          go_roundw
          case rel => exact ⟨k + 1, by omega, by go_num, HN, HB9.out⟩
          case measure => simp [intOf]; omega
      · obtain rfl : k = xs.length := by omega
        have HB := Lib.hid hb
        have hp := HP.out
        rw [tend] at hp
        have HG := Lib.hid (may6_ok H6.out.1 H6.out.2.1 H6.out.2.2 hp)
        clear hb hp
        go_wp2
        go_ret
        exact ⟨ret_may HG.out.symm, HB.out⟩
  · obtain rfl : xs = [] := List.eq_nil_of_length_eq_zero (by omega)
    have HG := Lib.hid (may6_ok H6.out.1 H6.out.2.1 H6.out.2.2 (show ([] : List Chg).all (isIn ks) = true from rfl))
    clear hv h0 hl hW hs H6
    go_enter Try.func13, Try.ntmps13
    go_wp2_with (first
      | (go_at_call 33; refine HWF.out.mono ?_; rintro e w1 ⟨rfl, hb1⟩)
      | (go_at_call 35; refine (HA.out _ hb1).mono ?_; rintro e w2 ⟨u2, rfl, ho2, hb2⟩; have hb12 := below_add hb1 hb2 hb1.size)
      | (go_at_call 34; refine (HM.out u2 _ hb12 (Own5.row ho2)).mono ?_; rintro e w3 ⟨rfl, hb3⟩))
    refine wp_loop_rounds 1 ?_
    rw [rounds_succ]
    go_wp2
    go_ret
    exact ⟨ret_may HG.out.symm, below_add hb12 hb3 hb12.size⟩
end Go.Proofs.Ytkejebjppnhidaa
