import Derived.Test.YtohgopibimgjfaaGreatZ4
/- N19: what the reference says may be; tame -/
namespace Go.Proofs.YtohgopibimgjfaaGreat
open Go.RowKit
set_option linter.unusedVariables false
set_option maxRecDepth 100000

set_option maxHeartbeats 4000000 in
theorem size_any (u : Value) (zs : List Oz) (w : World) (hv : Orow w u zs) :
    Calls Tryz.prog 9 #[u] w fun e w' => (∃ n, e = .returned (.int .i64 n)) ∧ Below w.heap.size w w' := by
  have hl : zs.length ≤ 9223372036854775807 := hv.len
  obtain ⟨a1, cap1, rfl⟩ := hv.shape
  by_cases h0 : 0 < zs.length
  rotate_left
  · obtain rfl : zs = [] := List.eq_nil_of_length_eq_zero (by omega)
    clear hv h0
    go_enter Tryz.func9, Tryz.ntmps9
    go_wp2
    refine wp_loop_rounds 1 ?_
    rw [rounds_succ]
    go_wp2
    go_ret
    exact ⟨⟨_, rfl⟩, Below.refl _ _⟩
  obtain ⟨b1, o1, rfl, -, -, -, hbl, hat⟩ := hv.row.ats h0
  have HAT := Lib.hid hat
  have HOK := Lib.hid hv.ok
  clear hv hat
  go_enter Tryz.func9, Tryz.ntmps9
  go_wp2
  go_loopw [3, 4] (fun s3 s4 wr => ∃ (k : Nat) (t : Int), k ≤ zs.length ∧ s3 = .int .i64 t ∧ s4 = .int .i64 k ∧ Hid (Below w.heap.size w wr)) (fun _ s4 _ => zs.length - (intOf s4).toNat)
  case atStart => exact ⟨0, 0, Nat.zero_le _, rfl, rfl, Lib.hid (Below.refl _ _)⟩
  case round =>
    obtain ⟨k, t, hk, rfl, rfl, HR⟩ := hrel
    obtain ⟨wo, hwo⟩ : ∃ x : World, x = wr := ⟨_, rfl⟩
    subst hwo
    by_cases hlt : k < zs.length
    · have hoat := HAT.out k hlt
      have hok := HOK.out _ (List.getElem_mem hlt)
      generalize zs[k] = p at hoat hok
      have HLT := Lib.hid hlt
      have HC := Lib.hid (fun W (hb : Below w.heap.size w W) => OAt.below hoat hb)
      have HSR := Lib.hid (fun W (hb : Below w.heap.size w W) => hok.s.below hb (Nat.le_refl _))
      have HPR := Lib.hid (fun W (hb : Below w.heap.size w W) => hok.p.below hb (Nat.le_refl _))
      have hrl := hok.r.len
      have hsl := hok.s.len
      have hpl := hok.p.len
      clear hok hoat
      obtain ⟨pk, pn, pra, prc, prs, psa, psc, pst, ppa, ppc, ppt⟩ := p
      simp only at hrl hsl hpl
      obtain ⟨c0, c1, c2, c3, c4⟩ := HC.out wo HR.out
      obtain ⟨rl, hrl2⟩ : ∃ n, prs.length = n := ⟨_, rfl⟩
      obtain ⟨sl, HE2⟩ : ∃ n, Hid (pst.length = n) := ⟨_, Lib.hid rfl⟩
      obtain ⟨pl, HE3⟩ : ∃ n, Hid (ppt.length = n) := ⟨_, Lib.hid rfl⟩
      have HRR := Lib.hid hrl2
      have e2 := HE2.out
      have e3 := HE3.out
      simp only at c2 c3 c4
      rw [hrl2] at c2 hrl
      rw [e2] at c3 hsl
      rw [e3] at c4 hpl
      clear hrl2 e2 e3
      go_wp2
      go_quiet (fail)
      rename_i nq
      have HBQ := Lib.hid (blw_drewN HR.out nq)
      clear c0 c1 c2 c3 c4
      go_wp2
      go_loopw [3, 5] (fun s3 s5 wi => ∃ (j : Nat) (t : Int), j ≤ sl ∧ s3 = .int .i64 t ∧ s5 = .int .i64 j ∧ Hid (Below w.heap.size w wi)) (fun _ s5 _ => sl - (intOf s5).toNat)
      case atStart => exact ⟨0, _, Nat.zero_le _, rfl, rfl, HBQ⟩
      case round =>
        obtain ⟨j, t2, hj, rfl, rfl, HI⟩ := hrel
        obtain ⟨wi, hwi⟩ : ∃ x : World, x = wr := ⟨_, rfl⟩
        subst hwi
        obtain ⟨c0, c1, c2, c3, c4⟩ := HC.out wi HI.out
        by_cases hjl : j < sl
        · have hjo : j < pst.length := by rw [HE2.out]; exact hjl
          have hsr := HSR.out wi HI.out
          obtain ⟨b2, o2, ha2, -, -, -, -, hat2⟩ := Arow.opn hsr (by omega)
          obtain ⟨d0, d1, d2, d3, d4⟩ := hat2 j hjo
          simp only at ha2 c3
          subst ha2
          rw [HE2.out] at c3
          have HJ := Lib.hid hjl
          generalize pst[j] = x at *
          obtain ⟨x1, x2, x3, x4, x5⟩ := x
          simp only at d0 d1 d2 d3 d4
          clear hat2 hjo hsr
          go_wp2
          go_roundw
          case rel => exact ⟨j + 1, _, HJ.out, rfl, by go_num, HI⟩
          case measure => have := HJ.out; simp [intOf]; omega
        · obtain rfl : j = sl := by omega
          simp only at c3 c4
          rw [HE2.out] at c3
          rw [HE3.out] at c4
          go_wp2
          go_loopw [3, 6] (fun s3 s6 wi => ∃ (j : Nat) (t : Int), j ≤ pl ∧ s3 = .int .i64 t ∧ s6 = .int .i64 j ∧ Hid (Below w.heap.size w wi)) (fun _ s6 _ => pl - (intOf s6).toNat)
          case atStart => exact ⟨0, _, Nat.zero_le _, rfl, rfl, HI⟩
          case round =>
            clear c0 c1 c2 c3 c4
            obtain ⟨j3, t3, hj3, rfl, rfl, HP⟩ := hrel
            obtain ⟨wp, hwp⟩ : ∃ x : World, x = wr := ⟨_, rfl⟩
            subst hwp
            obtain ⟨c0, c1, c2, c3, c4⟩ := HC.out wp HP.out
            simp only at c4
            by_cases hjl : j3 < pl
            · have hjo : j3 < ppt.length := by rw [HE3.out]; exact hjl
              have hpr := HPR.out wp HP.out
              obtain ⟨b2, o2, ha2, -, -, -, -, hat2⟩ := Crow.opn hpr (by omega)
              obtain ⟨d0, d1, d2, d3, d4, d5⟩ := hat2 j3 hjo
              simp only at ha2
              subst ha2
              rw [HE3.out] at c4
              have HJ := Lib.hid hjl
              generalize ppt[j3] = x at *
              obtain ⟨x1, x2, x3, x4, x5, x6⟩ := x
              simp only at d0 d1 d2 d3 d4 d5
              clear hat2 hjo hpr
              go_wp2
              go_roundw
              case rel => exact ⟨j3 + 1, _, HJ.out, rfl, by go_num, HP⟩
              case measure => have := HJ.out; simp [intOf]; omega
            · obtain rfl : j3 = pl := by omega
              rw [HE3.out] at c4
              go_wp2
              go_roundw
              case rel => exact ⟨k + 1, _, HLT.out, rfl, by go_num, HP⟩
              case measure => have := HLT.out; simp [intOf]; omega
    · obtain rfl : k = zs.length := by omega
      go_wp2
      go_ret
      exact ⟨⟨_, rfl⟩, HR.out⟩

def takeZ (t : Int) (z : Oz) : Int := if z.k = 2 then t else wrap64 (t + z.n)
def lenZ (z : Oz) : Int := if z.k = 2 then (z.rs.length : Int) else z.n
def makeZ (t : Int) (z : Oz) : Int := if z.k = 3 then t else wrap64 (t + lenZ z)
theorem fold_step {f : Int → Oz → Int} {zs : List Oz} {k : Nat} (hk : k < zs.length) {t : Int} (h : t = (zs.take k).foldl f 0) : f t zs[k] = (zs.take (k + 1)).foldl f 0 := by
  rw [List.take_succ_eq_append_getElem hk, List.foldl_append, h]; rfl
set_option maxHeartbeats 2000000 in
theorem takes_any (u : Value) (zs : List Oz) (w : World) (hv : Orow w u zs) :
    Calls Tryz.prog 56 #[u] w fun e w' => e = .returned (.int .i64 (zs.foldl takeZ 0)) ∧ Below w.heap.size w w' := by
  have hl : zs.length ≤ 9223372036854775807 := hv.len
  obtain ⟨a1, cap1, rfl⟩ := hv.shape
  have HAT := Lib.hid (fun (h0 : 0 < zs.length) => hv.row.ats h0)
  clear hv
  go_enter Tryz.func56, Tryz.ntmps56
  go_wp2
  go_loopw [3, 4] (fun s3 s4 wr => ∃ (k : Nat) (t : Int), k ≤ zs.length ∧ s3 = .int .i64 t ∧ s4 = .int .i64 k ∧ Hid (Below w.heap.size w wr ∧ t = (zs.take k).foldl takeZ 0)) (fun _ s4 _ => zs.length - (intOf s4).toNat)
  case atStart => exact ⟨0, 0, Nat.zero_le _, rfl, rfl, Lib.hid ⟨Below.refl _ _, rfl⟩⟩
  case round =>
    obtain ⟨k, t, hk, rfl, rfl, HR2⟩ := hrel
    have HR := Lib.hid HR2.out.1
    by_cases hlt : k < zs.length
    · obtain ⟨b1, o1, rfl, -, -, -, hbl, hat⟩ := HAT.out (by omega)
      obtain ⟨c0, c1, c2, c3, c4⟩ := (hat k hlt).below HR.out
      have HLT := Lib.hid hlt
      have HST := Lib.hid (fold_step hlt HR2.out.2)
      clear hat HAT HR2
      generalize zs[k] = p at *
      by_cases h2 : p.k = 2
      · have q1 : (p.k != 2) = false := by simpa using h2
        have HT := Lib.hid (show t = (zs.take (k + 1)).foldl takeZ 0 by have := HST.out; rwa [takeZ, if_pos h2] at this)
        clear HST
        clear h2
        go_wp2
        go_roundw
        case rel => exact ⟨k + 1, _, HLT.out, rfl, by go_num, Lib.hid ⟨HR.out, HT.out⟩⟩
        case measure => have := HLT.out; simp [intOf]; omega
      · have q1 : (p.k != 2) = true := by simpa using h2
        have HT := Lib.hid (show wrap64 (t + p.n) = (zs.take (k + 1)).foldl takeZ 0 by have := HST.out; rwa [takeZ, if_neg h2] at this)
        clear HST
        clear h2
        go_wp2
        go_roundw
        case rel => exact ⟨k + 1, _, HLT.out, rfl, by go_num, Lib.hid ⟨HR.out, HT.out⟩⟩
        case measure => have := HLT.out; simp [intOf]; omega
    · obtain rfl : k = zs.length := by omega
      have HE := Lib.hid (show t = zs.foldl takeZ 0 by have := HR2.out.2; rwa [List.take_length] at this)
      clear HR2
      go_wp2
      go_ret
      exact ⟨by rw [HE.out]; rfl, HR.out⟩
theorem rlen_any (z : Oz) (w : World) :
    Calls Tryz.prog 97 #[z.v] w fun e w' => e = .returned (.int .i64 (lenZ z)) ∧ Below w.heap.size w w' := by
  have HB := Lib.hid (kbelow_one w (.cells z.cs 56))
  by_cases h2 : z.k = 2
  · have q1 : (z.k == 2) = true := by simpa using h2
    have HL := Lib.hid (show lenZ z = (z.rs.length : Int) from if_pos h2)
    clear h2
    go_enter Tryz.func97, Tryz.ntmps97
    go_wp2
    go_ret
    exact ⟨by rw [HL.out]; rfl, HB.out⟩
  · have q1 : (z.k == 2) = false := by simpa using h2
    have HL := Lib.hid (show lenZ z = z.n from if_neg h2)
    clear h2
    go_enter Tryz.func97, Tryz.ntmps97
    go_wp2
    go_ret
    exact ⟨by rw [HL.out]; rfl, HB.out⟩
set_option maxHeartbeats 2000000 in
theorem makes_any (u : Value) (zs : List Oz) (w : World) (hv : Orow w u zs) :
    Calls Tryz.prog 57 #[u] w fun e w' => e = .returned (.int .i64 (zs.foldl makeZ 0)) ∧ Below w.heap.size w w' := by
  have hl : zs.length ≤ 9223372036854775807 := hv.len
  obtain ⟨a1, cap1, rfl⟩ := hv.shape
  have HAT := Lib.hid (fun (h0 : 0 < zs.length) => hv.row.ats h0)
  clear hv
  go_enter Tryz.func57, Tryz.ntmps57
  go_wp2
  go_loopw [3, 4] (fun s3 s4 wr => ∃ (k : Nat) (t : Int), k ≤ zs.length ∧ s3 = .int .i64 t ∧ s4 = .int .i64 k ∧ Hid (Below w.heap.size w wr ∧ t = (zs.take k).foldl makeZ 0)) (fun _ s4 _ => zs.length - (intOf s4).toNat)
  case atStart => exact ⟨0, 0, Nat.zero_le _, rfl, rfl, Lib.hid ⟨Below.refl _ _, rfl⟩⟩
  case round =>
    obtain ⟨k, t, hk, rfl, rfl, HR2⟩ := hrel
    have HR := Lib.hid HR2.out.1
    by_cases hlt : k < zs.length
    · obtain ⟨b1, o1, rfl, -, -, -, hbl, hat⟩ := HAT.out (by omega)
      obtain ⟨c0, c1, c2, c3, c4⟩ := (hat k hlt).below HR.out
      have HLT := Lib.hid hlt
      have HST := Lib.hid (fold_step hlt HR2.out.2)
      clear hat HAT HR2
      generalize zs[k] = p at *
      have HLE := Lib.hid (fun W => rlen_any p W)
      by_cases h2 : p.k = 3
      · have q1 : (p.k != 3) = false := by simpa using h2
        have HT := Lib.hid (show t = (zs.take (k + 1)).foldl makeZ 0 by have := HST.out; rwa [makeZ, if_pos h2] at this)
        clear HST
        clear h2
        go_wp2
        go_roundw
        case rel => exact ⟨k + 1, _, HLT.out, rfl, by go_num, Lib.hid ⟨HR.out, HT.out⟩⟩
        case measure => have := HLT.out; simp [intOf]; omega
      · have q1 : (p.k != 3) = true := by simpa using h2
        have HT := Lib.hid (show wrap64 (t + lenZ p) = (zs.take (k + 1)).foldl makeZ 0 by have := HST.out; rwa [makeZ, if_neg h2] at this)
        clear HST
        generalize lenZ p = lp at *
        clear h2
        go_wp2_with (go_at_call 97; refine (HLE.out _).mono ?_; rintro e w1 ⟨rfl, hb⟩; have HB := Lib.hid (below_add HR.out hb HR.out.size); clear hb)
        go_roundw
        case rel => exact ⟨k + 1, _, HLT.out, rfl, by go_num, Lib.hid ⟨HB.out, HT.out⟩⟩
        case measure => have := HLT.out; simp [intOf]; omega
    · obtain rfl : k = zs.length := by omega
      have HE := Lib.hid (show t = zs.foldl makeZ 0 by have := HR2.out.2; rwa [List.take_length] at this)
      clear HR2
      go_wp2
      go_ret
      exact ⟨by rw [HE.out]; rfl, HR.out⟩

/-- An op whose form is right. -/
structure FP (z : Oz) : Prop where
  tm : Tm z.o
  n : z.n ≤ 536870912
/-- The same as an answer. -/
def FB (z : Oz) : Prop := (z.k = 1 ∧ z.rs.length = 0 ∧ z.st.length = 0 ∧ 1 ≤ z.n ∧ z.n ≤ 536870912) ∨ (z.k = 3 ∧ z.rs.length = 0 ∧ z.st.length = 0 ∧ z.pt.length = 0 ∧ 1 ≤ z.n ∧ z.n ≤ 536870912) ∨ (z.k = 2 ∧ (∀ j, j < z.rs.length → mayB (z.rs.getD j 0) = true) ∧ z.n = 0 ∧ z.pt.length = 0 ∧ 1 ≤ z.rs.length)
instance (z : Oz) : Decidable (FB z) := by unfold FB; infer_instance
theorem FB.fp {z : Oz} (h : FB z) : FP z := by
  rcases h with ⟨h1, h2, h3, h4, h5⟩ | ⟨h1, h2, h3, h4, h5, h6⟩ | ⟨h1, h2, h3, h4, h5⟩
  · exact ⟨⟨fun _ => ⟨List.eq_nil_of_length_eq_zero h3, List.eq_nil_of_length_eq_zero h2, h4⟩, fun h => (by have h : z.k = 2 := h; omega), fun h => (by have h : z.k = 3 := h; omega), .inl h1, (by show z.n ≤ _; omega)⟩, h5⟩
  · exact ⟨⟨fun h => (by have h : z.k = 1 := h; omega), fun h => (by have h : z.k = 2 := h; omega), fun _ => ⟨List.eq_nil_of_length_eq_zero h3, List.eq_nil_of_length_eq_zero h4, List.eq_nil_of_length_eq_zero h2, h5⟩, .inr (.inr h1), (by show z.n ≤ _; omega)⟩, h6⟩
  · exact ⟨⟨fun h => (by have h : z.k = 1 := h; omega), fun _ => ⟨h3, List.eq_nil_of_length_eq_zero h4, fun h => (by have h : z.rs = [] := h; rw [h] at h5; simp at h5)⟩, fun h => (by have h : z.k = 3 := h; omega), .inr (.inl h1), (by show z.n ≤ _; omega)⟩, by omega⟩
def FmP (z : Oz) (e : Ending) : Prop := e = .returned (.bool (decide (FB z)))
theorem FmP.no {z : Oz} (h : ¬ FB z) : FmP z (.returned (.bool false)) := by rw [FmP, decide_eq_false h]
theorem FmP.yes {z : Oz} (h : FB z) : FmP z (.returned (.bool true)) := by rw [FmP, decide_eq_true h]
set_option maxHeartbeats 4000000 in
theorem form_any (z : Oz) (w : World) (hz : OpOk w z) (hs : Sm z) :
    Calls Tryz.prog 53 #[z.v] w fun e w' => FmP z e ∧ Below w.heap.size w w' := by
  have HB := Lib.hid (kbelow_one w (.cells z.cs 56))
  have HZ := Lib.hid hz
  have hrl := hs.r
  clear hz hs
  by_cases k1 : z.k = 1
  · have q1 : (z.k == 1) = true := by simpa using k1
    by_cases a0 : z.rs.length = 0
    rotate_left
    · have t_rs : ((z.rs.length : Int) == 0) = false := by simpa using a0
      have HN := Lib.hid (show ¬ FB z from fun h => by rcases h with h | h | h <;> omega)
      go_enter Tryz.func53, Tryz.ntmps53
      go_wp2
      go_ret
      exact ⟨FmP.no HN.out, HB.out⟩
    have t_rs : ((z.rs.length : Int) == 0) = true := by simpa using a0
    by_cases a1 : z.st.length = 0
    rotate_left
    · have t_st : ((z.st.length : Int) == 0) = false := by simpa using a1
      have HN := Lib.hid (show ¬ FB z from fun h => by rcases h with h | h | h <;> omega)
      go_enter Tryz.func53, Tryz.ntmps53
      go_wp2
      go_ret
      exact ⟨FmP.no HN.out, HB.out⟩
    have t_st : ((z.st.length : Int) == 0) = true := by simpa using a1
    by_cases a2 : 1 ≤ z.n
    rotate_left
    · have t_n1 : decide (1 ≤ z.n) = false := decide_eq_false a2
      have HN := Lib.hid (show ¬ FB z from fun h => by rcases h with h | h | h <;> omega)
      go_enter Tryz.func53, Tryz.ntmps53
      go_wp2
      go_ret
      exact ⟨FmP.no HN.out, HB.out⟩
    have t_n1 : decide (1 ≤ z.n) = true := decide_eq_true a2
    by_cases a3 : z.n ≤ 536870912
    rotate_left
    · have t_n2 : decide (z.n ≤ 536870912) = false := decide_eq_false a3
      have HN := Lib.hid (show ¬ FB z from fun h => by rcases h with h | h | h <;> omega)
      go_enter Tryz.func53, Tryz.ntmps53
      go_wp2
      go_ret
      exact ⟨FmP.no HN.out, HB.out⟩
    have t_n2 : decide (z.n ≤ 536870912) = true := decide_eq_true a3
    have HN := Lib.hid (show FB z from .inl ⟨k1, a0, a1, a2, a3⟩)
    go_enter Tryz.func53, Tryz.ntmps53
    go_wp2
    go_ret
    exact ⟨FmP.yes HN.out, HB.out⟩
  have q1 : (z.k == 1) = false := by simpa using k1
  by_cases k3 : z.k = 3
  · have q3 : (z.k == 3) = true := by simpa using k3
    by_cases a0 : z.rs.length = 0
    rotate_left
    · have t_rs : ((z.rs.length : Int) == 0) = false := by simpa using a0
      have HN := Lib.hid (show ¬ FB z from fun h => by rcases h with h | h | h <;> omega)
      go_enter Tryz.func53, Tryz.ntmps53
      go_wp2
      go_ret
      exact ⟨FmP.no HN.out, HB.out⟩
    have t_rs : ((z.rs.length : Int) == 0) = true := by simpa using a0
    by_cases a1 : z.st.length = 0
    rotate_left
    · have t_st : ((z.st.length : Int) == 0) = false := by simpa using a1
      have HN := Lib.hid (show ¬ FB z from fun h => by rcases h with h | h | h <;> omega)
      go_enter Tryz.func53, Tryz.ntmps53
      go_wp2
      go_ret
      exact ⟨FmP.no HN.out, HB.out⟩
    have t_st : ((z.st.length : Int) == 0) = true := by simpa using a1
    by_cases a2 : z.pt.length = 0
    rotate_left
    · have t_pt : ((z.pt.length : Int) == 0) = false := by simpa using a2
      have HN := Lib.hid (show ¬ FB z from fun h => by rcases h with h | h | h <;> omega)
      go_enter Tryz.func53, Tryz.ntmps53
      go_wp2
      go_ret
      exact ⟨FmP.no HN.out, HB.out⟩
    have t_pt : ((z.pt.length : Int) == 0) = true := by simpa using a2
    by_cases a3 : 1 ≤ z.n
    rotate_left
    · have t_n1 : decide (1 ≤ z.n) = false := decide_eq_false a3
      have HN := Lib.hid (show ¬ FB z from fun h => by rcases h with h | h | h <;> omega)
      go_enter Tryz.func53, Tryz.ntmps53
      go_wp2
      go_ret
      exact ⟨FmP.no HN.out, HB.out⟩
    have t_n1 : decide (1 ≤ z.n) = true := decide_eq_true a3
    by_cases a4 : z.n ≤ 536870912
    rotate_left
    · have t_n2 : decide (z.n ≤ 536870912) = false := decide_eq_false a4
      have HN := Lib.hid (show ¬ FB z from fun h => by rcases h with h | h | h <;> omega)
      go_enter Tryz.func53, Tryz.ntmps53
      go_wp2
      go_ret
      exact ⟨FmP.no HN.out, HB.out⟩
    have t_n2 : decide (z.n ≤ 536870912) = true := decide_eq_true a4
    have HN := Lib.hid (show FB z from .inr (.inl ⟨k3, a0, a1, a2, a3, a4⟩))
    go_enter Tryz.func53, Tryz.ntmps53
    go_wp2
    go_ret
    exact ⟨FmP.yes HN.out, HB.out⟩
  have q3 : (z.k == 3) = false := by simpa using k3
  by_cases k2 : z.k = 2
  rotate_left
  · have q2 : (z.k == 2) = false := by simpa using k2
    have HN := Lib.hid (show ¬ FB z from fun h => by rcases h with h | h | h <;> omega)
    go_enter Tryz.func53, Tryz.ntmps53
    go_wp2
    go_ret
    exact ⟨FmP.no HN.out, HB.out⟩
  have q2 : (z.k == 2) = true := by simpa using k2
  have HX := Lib.hid (OAt.new w z 56)
  have HRR := Lib.hid (fun W (hb : Below w.heap.size w W) => HZ.out.r.below hb)
  have HK := Lib.hid (And.intro k1 (And.intro k2 k3))
  clear k1 k2 k3 HZ
  go_enter Tryz.func53, Tryz.ntmps53
  go_wp2
  go_loopw [3] (fun s3 wr => ∃ (k : Nat), k ≤ z.rs.length ∧ s3 = .int .i64 k ∧ Hid (Below (w.heap.size + 1) (w.alloc (.cells z.cs 56)) wr ∧ ∀ j, j < k → mayB (z.rs.getD j 0) = true)) (fun s3 _ => z.rs.length - (intOf s3).toNat)
  case atStart => exact ⟨0, Nat.zero_le _, rfl, Lib.hid ⟨Below.refl _ _, fun j hj => absurd hj (Nat.not_lt_zero _)⟩⟩
  case round =>
    obtain ⟨k, hk, rfl, HR2⟩ := hrel
    have HR := Lib.hid HR2.out.1
    have HMB := Lib.hid HR2.out.2
    clear HR2
    obtain ⟨c0, c1, c2, c3, c4⟩ := HX.out.below (w' := wr) (by rw [World.size_alloc]; exact HR.out)
    have HBR := Lib.hid (show Below w.heap.size w wr from below_add HB.out (by rw [World.size_alloc]; exact HR.out) HB.out.size)
    by_cases hlt : k < z.rs.length
    · obtain ⟨b2, o2, ha2, -, -, -, hat2⟩ := (HRR.out wr HBR.out).opened (by omega)
      have d0 := hat2 k hlt
      rw [ha2] at c2
      have HBAD := Lib.hid (fun (hm : mayB (z.rs.getD k 0) = false) => show ¬ FB z from fun h => by
        rcases h with ⟨h, -⟩ | ⟨h, -⟩ | ⟨-, h, -⟩
        · exact HK.out.1 h
        · exact HK.out.2.2 h
        · have := h k hlt; rw [hm] at this; cases this)
      have HSTP := Lib.hid (fun (hm : mayB (z.rs.getD k 0) = true) => show ∀ j, j < k + 1 → mayB (z.rs.getD j 0) = true from fun j hj => by
        by_cases e : j = k
        · subst e; exact hm
        · exact HMB.out j (by omega))
      clear HMB
      generalize z.rs.getD k 0 = r at *
      have HM := Lib.hid (fun W => rmay_any r W)
      have HLT := Lib.hid hlt
      clear hat2
      generalize hmb : mayB r = mb at *
      cases mb
      · go_wp2_with (go_at_call 91; refine (HM.out _).mono ?_; rintro e w1 ⟨rfl, rfl⟩)
        go_ret
        exact ⟨FmP.no (HBAD.out (by first | rfl | trivial)), HBR.out⟩
      · go_wp2_with (go_at_call 91; refine (HM.out _).mono ?_; rintro e w1 ⟨rfl, rfl⟩)
        go_roundw
        case rel => exact ⟨k + 1, HLT.out, by go_num, Lib.hid ⟨HR.out, HSTP.out (by first | rfl | trivial)⟩⟩
        case measure => have := HLT.out; simp [intOf]; omega
    · obtain rfl : k = z.rs.length := by omega
      have hlt2 : ¬ ((z.rs.length : Int) < (z.rs.length : Int)) := by omega
      clear hk hlt
      obtain ⟨kk1, kk2, kk3⟩ := HK.out
      by_cases a0 : z.n = 0
      rotate_left
      · have t_n : (z.n == 0) = false := by simpa using a0
        have HN := Lib.hid (show ¬ FB z from fun h => by rcases h with h | h | h <;> omega)
        clear kk1 kk2 kk3
        go_wp2
        go_ret
        exact ⟨FmP.no HN.out, HBR.out⟩
      have t_n : (z.n == 0) = true := by simpa using a0
      by_cases a1 : z.pt.length = 0
      rotate_left
      · have t_pt : ((z.pt.length : Int) == 0) = false := by simpa using a1
        have HN := Lib.hid (show ¬ FB z from fun h => by rcases h with h | h | h <;> omega)
        clear kk1 kk2 kk3
        go_wp2
        go_ret
        exact ⟨FmP.no HN.out, HBR.out⟩
      have t_pt : ((z.pt.length : Int) == 0) = true := by simpa using a1
      by_cases a2 : 1 ≤ z.rs.length
      rotate_left
      · have t_r1 : decide ((1 : Int) ≤ (z.rs.length : Int)) = false := decide_eq_false (by omega)
        have HN := Lib.hid (show ¬ FB z from fun h => by rcases h with h | h | h <;> omega)
        clear kk1 kk2 kk3
        go_wp2
        go_ret
        exact ⟨FmP.no HN.out, HBR.out⟩
      have t_r1 : decide ((1 : Int) ≤ (z.rs.length : Int)) = true := decide_eq_true (by omega)
      have t_r2 : decide ((z.rs.length : Int) ≤ 536870912) = true := decide_eq_true (by omega)
      have HN := Lib.hid (show FB z from .inr (.inr ⟨HK.out.2.1, HMB.out, a0, a1, a2⟩))
      clear kk1 kk2 kk3
      go_wp2
      go_ret
      exact ⟨FmP.yes HN.out, HBR.out⟩
end Go.Proofs.YtohgopibimgjfaaGreat

/- N22: known -/
namespace Go.Proofs.YtohgopibimgjfaaGreat
open Go.RowKit
set_option linter.unusedVariables false
set_option maxRecDepth 100000

theorem orow_lits (W : World) (zs : List Oz) (t : TypeId) (hl : zs.length ≤ maxLen) (h : ∀ z ∈ zs, OpOk W z) : Orow (W.alloc (.cells (fl ozC zs).toArray t)) (.slice (some ⟨W.heap.size, 0, none⟩) zs.length zs.length) zs :=
  ⟨Row.built (C := ozC) W t zs hl, fun z hz => (h z hz).below (kbelow_one W _)⟩
@[reducible] def zI (a : Option Addr) (xs : List Int) : Oz := ⟨2, 0, a, xs.length, xs, none, 0, [], none, 0, []⟩
@[reducible] def zD (n : Int) : Oz := ⟨3, n, none, 0, [], none, 0, [], none, 0, []⟩
@[reducible] def zR (n : Int) : Oz := ⟨1, n, none, 0, [], none, 0, [], none, 0, []⟩
theorem okI {W : World} {a : Option Addr} {xs : List Int} (h : Ints .i32 W (.slice a xs.length xs.length) xs) : OpOk W (zI a xs) := ⟨h, Row.nil W, Row.nil W⟩
theorem okD (W : World) (n : Int) : OpOk W (zD n) := ⟨ints_nil _ W, Row.nil W, Row.nil W⟩
theorem okR (W : World) (n : Int) : OpOk W (zR n) := ⟨ints_nil _ W, Row.nil W, Row.nil W⟩
end Go.Proofs.YtohgopibimgjfaaGreat

/- N23: what a law is told; its contracts -/
namespace Go.Proofs.YtohgopibimgjfaaGreat
open Go.RowKit
set_option linter.unusedVariables false
set_option maxRecDepth 100000

structure LIn (zs : List Oz) : Prop where
  i : In zs
  a : ∀ z ∈ zs, ∀ a ∈ z.st, a.s.size ≤ 50000000
  c : ∀ z ∈ zs, ∀ a ∈ z.pt, a.s.size ≤ 50000000
  len : zs.length ≤ 50000000
  rs : sumR (zs.map Oz.o) ≤ 50000000
theorem le_totA {a : Att} : ∀ {l : List Att}, a ∈ l → a.s.size ≤ totA l
  | [], h => by cases h
  | x :: r, h => by
    have e : totA (x :: r) = 1 + x.s.size + totA r := by simp [totA, sizeA]; omega
    rcases List.mem_cons.1 h with rfl | h
    · rw [e]; omega
    · have := le_totA h; omega
theorem le_totC {a : Chg} : ∀ {l : List Chg}, a ∈ l → a.s.size ≤ totC l
  | [], h => by cases h
  | x :: r, h => by
    have e : totC (x :: r) = 1 + x.s.size + totC r := by simp [totC, sizeC]; omega
    rcases List.mem_cons.1 h with rfl | h
    · rw [e]; omega
    · have := le_totC h; omega
theorem le_totO {z : Oz} : ∀ {l : List Oz}, z ∈ l → szO z ≤ totO l
  | [], h => by cases h
  | x :: r, h => by
    have e : totO (x :: r) = szO x + totO r := by simp [totO]
    rcases List.mem_cons.1 h with rfl | h
    · omega
    · have := le_totO h; omega
theorem law_in {zs : List Oz} (hW : ∀ z ∈ zs, OpW z) (h : totO zs ≤ 50000000) : LIn zs := by
  obtain ⟨h1, h2, h3⟩ := sm_tot h
  refine ⟨⟨h2, fun z hz => ?_, by omega, by omega⟩, fun z hz a ha => ?_, fun z hz a ha => ?_, h1, h3⟩
  · have := (hW z hz).n
    have e : (Lit.int .i64 z.n).wf = true := this
    simp [Lit.wf] at e
    omega
  · have e3 : szO z = 1 + z.rs.length + totA z.st + totC z.pt := rfl
    have := le_totO hz
    have := le_totA ha
    omega
  · have e3 : szO z = 1 + z.rs.length + totA z.st + totC z.pt := rfl
    have := le_totO hz
    have := le_totC ha
    omega
/-- What tame says yes to. -/
structure Tame (zs : List Oz) : Prop where
  tm : ∀ o ∈ zs.map Oz.o, Tm o
  n : sumN (zs.map Oz.o) ≤ 72057594037927936
theorem sumN_le {c : Int} : ∀ {l : List Oz}, (∀ x ∈ l, x.n ≤ c) → 0 ≤ c → sumN (l.map Oz.o) ≤ l.length * c
  | [], _, _ => by simp [sumN]
  | x :: r, h, hc => by
    have h1 := sumN_le (fun y hy => h y (List.mem_cons_of_mem _ hy)) hc
    have h2 := h x (List.mem_cons_self ..)
    have e : sumN ((x :: r).map Oz.o) = x.n + sumN (r.map Oz.o) := by rw [List.map_cons, sumN_cons]; rfl
    have e2 : (((x :: r).length : Nat) : Int) * c = c + r.length * c := by rw [List.length_cons]; push_cast; rw [Int.add_mul]; omega
    rw [e, e2]
    omega
theorem tame_yes {zs : List Oz} (h : ∀ x ∈ zs, FP x) (hl : zs.length ≤ 50000000) : Tame zs := by
  refine ⟨fun o ho => ?_, ?_⟩
  · obtain ⟨x, hx, rfl⟩ := List.mem_map.1 ho
    exact (h x hx).tm
  · have := sumN_le (fun x hx => (h x hx).n) (by omega)
    omega
end Go.Proofs.YtohgopibimgjfaaGreat

/- N25: NormalShort -/
namespace Go.Proofs.YtohgopibimgjfaaGreat
open Go.RowKit
set_option linter.unusedVariables false
set_option maxRecDepth 100000

theorem gone_nn2 {l : List Oz} (h : ∀ o ∈ l.map Oz.o, Tm o) : 0 ≤ goneO (l.map Oz.o) := gone_nn h
theorem gone_step {zs : List Oz} {k : Nat} (hk : k < zs.length) {t : Int} (h : t = goneO ((zs.take k).map Oz.o)) (ht : ∀ o ∈ zs.map Oz.o, Tm o) (hb : goneO (zs.map Oz.o) ≤ 72057594037927936) : (zs[k].k = 3 → wrap64 (t + zs[k].n) = goneO ((zs.take (k + 1)).map Oz.o)) ∧ (¬ zs[k].k = 3 → t = goneO ((zs.take (k + 1)).map Oz.o)) := by
  have e : goneO ((zs.take (k + 1)).map Oz.o) = goneO ((zs.take k).map Oz.o) + if zs[k].k = 3 then zs[k].n else 0 := by
    rw [List.take_succ_eq_append_getElem hk, List.map_append, goneO_app, List.map_singleton, goneO_one]; rfl
  have e2 : goneO (zs.map Oz.o) = goneO ((zs.take (k + 1)).map Oz.o) + goneO ((zs.drop (k + 1)).map Oz.o) := by
    rw [← goneO_app, ← List.map_append, List.take_append_drop]
  have n1 : 0 ≤ goneO ((zs.drop (k + 1)).map Oz.o) := gone_nn2 (fun o ho => ht o (by obtain ⟨x, hx, rfl⟩ := List.mem_map.1 ho; exact List.mem_map_of_mem (List.mem_of_mem_drop hx)))
  have n2 : 0 ≤ goneO ((zs.take k).map Oz.o) := gone_nn2 (fun o ho => ht o (by obtain ⟨x, hx, rfl⟩ := List.mem_map.1 ho; exact List.mem_map_of_mem (List.mem_of_mem_take hx)))
  have n3 : 0 ≤ goneO ((zs.take (k + 1)).map Oz.o) := gone_nn2 (fun o ho => ht o (by obtain ⟨x, hx, rfl⟩ := List.mem_map.1 ho; exact List.mem_map_of_mem (List.mem_of_mem_take hx)))
  refine ⟨fun h3 => ?_, fun h3 => ?_⟩
  · rw [if_pos h3] at e
    rw [show wrap64 (t + zs[k].n) = IntKind.i64.wrap (t + zs[k].n) from (Go.IntWalk.i64_left _).symm, IntKind.wrap_i64]
    omega
  · rw [if_neg h3] at e
    omega
theorem gone_sumN : ∀ {l : List Opn}, (∀ o ∈ l, Tm o) → goneO l ≤ sumN l
  | [], _ => by simp [goneO, sumN]
  | x :: r, h => by
    have h1 := gone_sumN (fun o ho => h o (List.mem_cons_of_mem _ ho))
    have h2 := (h x (List.mem_cons_self ..)).nn
    rw [goneO_cons, sumN_cons]
    split <;> omega

end Go.Proofs.YtohgopibimgjfaaGreat

/- N26: a variable that holds a row of the call's own; NormalMany's three -/
namespace Go.Proofs.YtohgopibimgjfaaGreat
open Go.RowKit
set_option linter.unusedVariables false
set_option maxRecDepth 100000

section
variable {α : Type} {C : Cel α} {P : Program} {w : World} {o : Oper} {a : Act}
/-- append(out, src...), where src has an element: out's row lies where it lay, or in a new block. -/
theorem wp_append_rowL {K : Act → World → Prop} {Q : Exit → Act → World → Prop} (s x : Operand) (t : TypeId)
    (ho : o.op = .call { callee := .builtin .append, args := #[s, x], argTypes := #[t, t] })
    (base : Nat) (e : TypeId) (i : TypeInfo) (z : Value) (bytes : Nat) (ht : P.underlying t = some (.slice e)) (hi : P.info? e = some i) (hz : i.zero = some z)
    (hsize : i.size = C.m) (hby : i.bytes = bytes) (hzs : z.cells.size = C.m)
    (v : Value) (n : Nat) (cs : List Value) (hs : a.eval s = v) (hown : w.ownsRow base e C.m v n cs)
    (u : Value) (ys : List α) (hx : a.eval x = u) (hu : Row C w u ys) (h0 : 0 < ys.length)
    (h63 : n + ys.length ≤ maxLen) (hbytes : (n + ys.length) * bytes ≤ 140737488355328) (hbase : base ≤ w.heap.size)
    (h : ∀ g cap w', w'.ownsRow base e C.m (.slice (some ⟨g, 0, none⟩) (n + ys.length) cap) (n + ys.length) (cs ++ fl C ys) → w.grownBy w' v.ownBlock → (v.ownBlock = some g ∨ w.heap.size ≤ g) → g < w'.heap.size → K (a.put o.dst (.slice (some ⟨g, 0, none⟩) (n + ys.length) cap)) w') : o.wp P a w K Q := by
  rcases hu with ⟨ad, cap, rfl, rfl, hm, hc0⟩ | ⟨b, off, cap, rfl, -, h1, hm, hc⟩
  · simp at h0
  · refine wp_append_lies w s x t ho base e i z C.m bytes ht hi hz hsize hby hzs C.pos v n cs hs hown ⟨b, off, none⟩ ys.length cap (fl C ys) hx (fl_len C ys) ?_ (fl_ones C ys) h0 h63 hbytes hbase _ rfl (fun g cap w' q1 q2 q3 q4 => h g cap w' q1 q2 (q3.imp id (fun e => by omega)) q4)
    intro j u hj
    rw [Go.WideShapes.add_plain]
    exact hc j u hj
theorem wpList_append_rowL {ops : Array Oper} {rest : List Oper} {Q : Exit → Act → World → Prop} (hgd : o.guard = none) (s x : Operand) (t : TypeId)
    (ho : o.op = .call { callee := .builtin .append, args := #[s, x], argTypes := #[t, t] })
    (base : Nat) (e : TypeId) (i : TypeInfo) (z : Value) (bytes : Nat) (ht : P.underlying t = some (.slice e)) (hi : P.info? e = some i) (hz : i.zero = some z)
    (hsize : i.size = C.m) (hby : i.bytes = bytes) (hzs : z.cells.size = C.m)
    (v : Value) (n : Nat) (cs : List Value) (hs : a.eval s = v) (hown : w.ownsRow base e C.m v n cs)
    (u : Value) (ys : List α) (hx : a.eval x = u) (hu : Row C w u ys) (h0 : 0 < ys.length)
    (h63 : n + ys.length ≤ maxLen) (hbytes : (n + ys.length) * bytes ≤ 140737488355328) (hbase : base ≤ w.heap.size)
    (h : ∀ g cap w', w'.ownsRow base e C.m (.slice (some ⟨g, 0, none⟩) (n + ys.length) cap) (n + ys.length) (cs ++ fl C ys) → w.grownBy w' v.ownBlock → (v.ownBlock = some g ∨ w.heap.size ≤ g) → g < w'.heap.size → wpList P ops Q rest (a.put o.dst (.slice (some ⟨g, 0, none⟩) (n + ys.length) cap)) w') : wpList P ops Q (o :: rest) a w :=
  wpList_plain hgd fun _ hK => wp_append_rowL s x t ho base e i z bytes ht hi hz hsize hby hzs v n cs hs hown u ys hx hu h0 h63 hbytes hbase fun g cap w' h2 h3 h4 h5 => hK _ _ (h g cap w' h2 h3 h4 h5)
end

section
variable {w0 W w2 w3 : World} {ba bn b1 b2 : Nat} {ah : Bool} {vy vg v3 : Value} {Y G ys : List Oz} {n : Int}
end
end Go.Proofs.YtohgopibimgjfaaGreat

/- N29: the reference's out -/
namespace Go.Proofs.YtohgopibimgjfaaGreat
open Go.RowKit
set_option linter.unusedVariables false
set_option maxRecDepth 100000

/-- append(out, src...), where src has an element: out's row lies where it lay, or in a new block. -/
theorem step_append_rowR {α : Type} {C : Cel α} {P : Program} {w : World} {o : Oper} {a : Act} {ops : Array Oper} {K : Act → World → Prop} {Q : Exit → Act → World → Prop} {E : Prop} (hgd : o.guard = none) (s x : Operand) (t : TypeId)
    (ho : o.op = .call { callee := .builtin .append, args := #[s, x], argTypes := #[t, t] })
    (base : Nat) (e : TypeId) (i : TypeInfo) (z : Value) (bytes : Nat) (ht : P.underlying t = some (.slice e)) (hi : P.info? e = some i) (hz : i.zero = some z)
    (hsize : i.size = C.m) (hby : i.bytes = bytes) (hzs : z.cells.size = C.m)
    (v : Value) (n : Nat) (cs : List Value) (hs : a.eval s = v) (hown : w.ownsRow base e C.m v n cs)
    (u : Value) (ys : List α) (hx : a.eval x = u) (hu : Row C w u ys) (h0 : 0 < ys.length)
    (h63 : n + ys.length ≤ maxLen) (hbytes : (n + ys.length) * bytes ≤ 140737488355328) (hbase : base ≤ w.heap.size)
    (h : ∀ g cap w', w'.ownsRow base e C.m (.slice (some ⟨g, 0, none⟩) (n + ys.length) cap) (n + ys.length) (cs ++ fl C ys) → w.grownBy w' v.ownBlock → K (a.put o.dst (.slice (some ⟨g, 0, none⟩) (n + ys.length) cap)) w') :
    if Region.wanted o (yielded ops a.tmps) = true then Oper.wp P o a w K Q else E := by
  have hw : Region.wanted o (yielded ops a.tmps) = true := by simp [Region.wanted, hgd]
  rw [if_pos hw]
  rcases hu with ⟨ad, cap, rfl, rfl, hm, hc0⟩ | ⟨b, off, cap, rfl, -, h1, hm, hc⟩
  · simp at h0
  · refine wp_append_lies w s x t ho base e i z C.m bytes ht hi hz hsize hby hzs C.pos v n cs hs hown ⟨b, off, none⟩ ys.length cap (fl C ys) hx (fl_len C ys) ?_ (fl_ones C ys) h0 h63 hbytes hbase _ rfl (fun g cap w' q1 q2 q3 q4 => h g cap w' q1 q2)
    intro j u hj
    rw [Go.WideShapes.add_plain]
    exact hc j u hj
/-- An op of the reference's out: its runes lie where they came in, or in a row of the call's own; its set and patch where they came in. -/
structure OpG (w0 W : World) (z : Oz) : Prop where
  r : Ints .i32 w0 z.rv z.rs ∨ W.ownsRow w0.heap.size 21 1 z.rv z.rs.length (z.rs.map (Value.int .i32))
  s : Arow w0 z.sv z.st
  p : Crow w0 z.pv z.pt
  hs : z.st.length ≤ 50331648
  hp : z.pt.length ≤ 50331648
/-- The reference's out. -/
structure GO (w0 : World) (B : Nat) (v : Value) (zs : List Oz) (W : World) : Prop where
  bel : Below w0.heap.size w0 W
  hB : w0.heap.size ≤ B
  own : W.ownsRow B 56 5 v zs.length (fl ozC zs)
  el : ∀ z ∈ zs, OpG w0 W z
section
variable {w0 W W2 w3 : World} {B B2 n : Nat} {v v3 : Value} {zs ys : List Oz} {z : Oz} {cs : List Value}
theorem OpG.ok (h : OpG w0 W z) (hb : Below w0.heap.size w0 W) : OpOk W z :=
  ⟨by rcases h.r with h | h
      · exact h.below hb
      · exact (Ints.of_owns h).1, h.s.below hb (Nat.le_refl _), h.p.below hb (Nat.le_refl _)⟩
theorem OpG.of (h : OpOk w0 z) (hs : Sm z) (W : World) : OpG w0 W z := ⟨.inl h.r, h.s, h.p, hs.s, hs.p⟩
theorem OpG.below (h : OpG w0 W z) (hb : Below W.heap.size W W2) : OpG w0 W2 z := ⟨h.r.imp id (fun h => owns_below h hb), h.s, h.p, h.hs, h.hp⟩
theorem OpG.grown (h : OpG w0 W z) (ho : W.ownsRow B 56 5 v n cs) (hg : W.grownBy w3 v.ownBlock) : OpG w0 w3 z := ⟨h.r.imp id (fun h => own_far2 h ho (by decide) hg), h.s, h.p, h.hs, h.hp⟩
theorem GO.below (h : GO w0 B v zs W) (hb : Below W.heap.size W W2) : GO w0 B v zs W2 := ⟨below_add h.bel hb h.bel.size, h.hB, owns_below h.own hb, fun z hz => (h.el z hz).below hb⟩
theorem GO.orow (h : GO w0 B v zs W) : Orow W v zs := ⟨(Row.of_owns (C := ozC) h.own).1, fun z hz => (h.el z hz).ok h.bel⟩
theorem GO.nil (hb : Below w0.heap.size w0 W) (hB : w0.heap.size ≤ B) : GO w0 B (.slice none 0 0) [] W := ⟨hb, hB, World.ownsRow_nil _ _ _ _, by simp⟩
theorem GO.mono (h : GO w0 B v zs W) (h1 : B2 ≤ B) (h2 : w0.heap.size ≤ B2) : GO w0 B2 v zs W := ⟨h.bel, h2, owns_mono h.own h1, h.el⟩
theorem fl_app3 (a b : List Oz) : fl ozC a ++ fl ozC b = fl ozC (a ++ b) := (fl_app ozC a b).symm
/-- Ops put at its end. -/
theorem GO.push (h : GO w0 B v zs W) (hg : W.grownBy w3 v.ownBlock) (hn : zs.length = n) (ho : w3.ownsRow B 56 5 v3 (n + ys.length) (fl ozC zs ++ fl ozC ys)) (hel : ∀ z ∈ ys, OpG w0 W z) : GO w0 B v3 (zs ++ ys) w3 := by
  subst hn
  have hO : Off (fun k => v.ownBlock = some k) W w3 := Off.of_grown hg (fun g hg => hg)
  refine ⟨h.bel.trans (hO.below (fun k hk => Nat.le_trans h.hB (own_base h.own hk)) h.bel.size), h.hB, by rw [List.length_append, ← fl_app3]; exact ho, fun z hz => ?_⟩
  rcases List.mem_append.1 hz with hz | hz
  · exact (h.el z hz).grown h.own hg
  · exact (hel z hz).grown h.own hg
/-- One of its cells written. -/
theorem GO.set {g c j q : Nat} {u : Value} (h : GO w0 B (.slice (some ⟨g, 0, none⟩) n c) zs W) (hn : zs.length = n) (hj : j < zs.length) (hz : OpG w0 W z) (hf : (fl ozC zs).set (j * 5 + q) u = fl ozC (zs.set j z)) : GO w0 B (.slice (some ⟨g, 0, none⟩) n c) (zs.set j z) (W.setCell ⟨g, j * 5 + q, none⟩ u) := by
  subst hn
  have hg := grown_set (w := W) (g := g) (o := j * 5 + q) u
  have hO : Off (fun k => k = g) W (W.setCell ⟨g, j * 5 + q, none⟩ u) := Off.of_grown hg (fun k hk => by cases hk; rfl)
  have hgb : B ≤ g := own_base h.own rfl
  refine ⟨h.bel.trans (hO.below (fun k hk => by subst hk; exact Nat.le_trans h.hB hgb) h.bel.size), h.hB, ?_, fun y hy => ?_⟩
  · rw [List.length_set, ← hf]
    exact owns_set h.own u
  · have : OpG w0 W y := by
      rcases List.mem_or_eq_of_mem_set hy with hy | rfl
      · exact h.el y hy
      · exact hz
    exact this.grown h.own hg
/-- Its op at a place. -/
theorem GO.at (h : GO w0 B v zs W) (h0 : 0 < zs.length) : ∃ g c, v = .slice (some ⟨g, 0, none⟩) zs.length c ∧ B ≤ g ∧ zs.length ≤ c ∧ c ≤ maxLen ∧ (∀ W2, Below W.heap.size W W2 → ∀ j (hj : j < zs.length), OAt g (j * 5) zs[j] W2 ∧ ∀ o, W2.frozen? ⟨g, o, none⟩ = false) := by
  obtain ⟨a, c, rfl, ha, -⟩ := own_shape h.own
  obtain ⟨b, off, e, -, hc, hm, hb, hat⟩ := h.orow.row.ats h0
  rcases ha with rfl | ⟨g, rfl⟩
  · cases e
  · injection e with e
    injection e with e1 e2
    subst e1 e2
    refine ⟨_, c, rfl, own_base h.own rfl, hc, hm, fun W2 hb2 j hj => ⟨?_, fun o => ?_⟩⟩
    · have := (hat j hj).below hb2
      rwa [Nat.zero_add] at this
    · obtain ⟨cur, hcur⟩ := own_tag h.own rfl
      have : Cb _ 56 cur W := hcur
      exact (this.below hb2).frozen o
end

theorem take_oz {zs : List Oz} {k : Nat} (hk : k < zs.length) : (zs.take (k + 1)).map Oz.o = (zs.take k).map Oz.o ++ [zs[k].o] := by
  rw [List.take_succ_eq_append_getElem hk, List.map_append]; rfl
theorem bel_grown {w w1 w2 : World} {e : TypeId} {m n : Nat} {v : Value} {xs : List Value} (hb : Below w.heap.size w w1) (ho : w1.ownsRow w.heap.size e m v n xs) (hg : w1.grownBy w2 v.ownBlock) : Below w.heap.size w w2 :=
  hb.trans ((Off.of_grown (S := fun g => v.ownBlock = some g) hg (fun g hg => hg)).below (fun k hk => own_base ho hk) hb.size)
theorem bel_set {B g o : Nat} {w W : World} (h : Below B w W) (hB : B ≤ g) (hs : B ≤ w.heap.size) (u : Value) : Below B w (W.setCell ⟨g, o, none⟩ u) :=
  h.trans ((Off.of_grown (S := fun k => k = g) (grown_set (w := W) (g := g) (o := o) u) (fun k hk => by cases hk; rfl)).below (fun k hk => by subst hk; exact hB) (Nat.le_trans hs h.size))
theorem set_snoc (zs : List Oz) (l l2 : Oz) : (zs ++ [l]).set zs.length l2 = zs ++ [l2] := by simp
/-- The last op's runes laid anew. -/
@[reducible] def runesG (l : Oz) (g c : Nat) (rs : List Int) : Oz := { l with ra := some ⟨g, 0, none⟩, rc := c, rs := rs }
theorem GO.runes {w0 W : World} {B g g4 c cap n m : Nat} {zs : List Oz} {l : Oz} {rs : List Int} (h : GO w0 B (.slice (some ⟨g, 0, none⟩) n c) (zs ++ [l]) W) (hn : (zs ++ [l]).length = n) (hm : zs.length = m) {B2 : Nat} (hB : w0.heap.size ≤ B2) {p : Nat} (hp : rs.length = p) (ho : W.ownsRow B2 21 1 (.slice (some ⟨g4, 0, none⟩) p cap) p (rs.map (Value.int .i32))) :
    GO w0 B (.slice (some ⟨g, 0, none⟩) n c) (zs ++ [runesG l g4 cap rs]) (W.setCell ⟨g, m * 5 + 2, none⟩ (.slice (some ⟨g4, 0, none⟩) p cap)) := by
  subst hm hp
  have hl := h.el l (by simp)
  have hj : zs.length < (zs ++ [l]).length := by simp
  have e : (zs ++ [l])[zs.length] = l := by simp
  have := h.set hn hj (z := runesG l g4 cap rs) (q := 2) (u := .slice (some ⟨g4, 0, none⟩) rs.length cap) ⟨.inr (owns_mono ho hB), hl.s, hl.p, hl.hs, hl.hp⟩ (fl_turn hj 2 (by decide) _ _ (by rw [e]; rfl))
  rwa [set_snoc] at this
theorem nil_or_snoc (ys : List Oz) : ys = [] ∨ ∃ zs l, ys = zs ++ [l] := by
  rcases List.eq_nil_or_concat ys with h | ⟨zs, l, h⟩
  · exact .inl h
  · exact .inr ⟨zs, l, by rw [h, List.concat_eq_append]⟩
/-! ### what a gap's inserts come to -/
theorem sumR_joinG (o : Opn) (G : List Opn) : sumR (joinG o G) = sumR G + o.rs.length ∧ (joinG o G).length ≤ G.length + 1 := by
  cases G with
  | nil => simp [joinG, sumR]
  | cons l r =>
    by_cases h : l.st = o.st
    · rw [joinG_yes r h, sumR_cons, sumR_cons]
      simp only [List.length_append, List.length_cons]
      omega
    · rw [joinG_no r h, sumR_cons]
      simp only [List.length_cons]
      omega
theorem sumR_insO (g : List Opn) : sumR (insO g) ≤ sumR g := by
  induction g with
  | nil => simp [insO, sumR]
  | cons x r ih =>
    by_cases h : x.k = 3
    · have e : insO (x :: r) = insO r := by simp [insO, h]
      rw [e, sumR_cons]; omega
    · have e : insO (x :: r) = x :: insO r := by simp [insO, h]
      rw [e, sumR_cons, sumR_cons]; omega
theorem sumR_joinAll (g : List Opn) : sumR (joinAll g) = sumR g ∧ (joinAll g).length ≤ g.length := by
  induction g using snoc_ind with
  | nil => simp [joinAll]
  | append_singleton g x ih =>
    rw [joinAll_snoc, sumR_app]
    obtain ⟨h1, h2⟩ := sumR_joinG x (joinAll g)
    refine ⟨by rw [h1, ih.1]; simp [sumR], ?_⟩
    simp only [List.length_append, List.length_cons, List.length_nil]
    omega
theorem insO_len (g : List Opn) : (insO g).length ≤ g.length := List.length_filter_le _ _
end Go.Proofs.YtohgopibimgjfaaGreat

/- N30: the reference's gap -/
namespace Go.Proofs.YtohgopibimgjfaaGreat
open Go.RowKit
set_option linter.unusedVariables false
set_option maxRecDepth 100000

structure GapW (w0 w : World) (xs : List Oz) (k : Nat) (v : Value) (ys : List Oz) (t : Int) (W : World) : Prop where
  o : GO w0 w.heap.size v ys W
  b : Below w.heap.size w W
  r : (ys.map Oz.o).reverse = joinAll (insO ((xs.take k).map Oz.o))
  t : t = goneO ((xs.take k).map Oz.o)
section
variable {w0 w W W3 : World} {xs ys : List Oz} {k : Nat} {v v3 : Value} {t t2 : Int} {z l l2 : Oz}
theorem GapW.below {W2 : World} (h : GapW w0 w xs k v ys t W) (hb : Below W.heap.size W W2) : GapW w0 w xs k v ys t W2 := ⟨h.o.below hb, below_add h.b hb h.b.size, h.r, h.t⟩
theorem GapW.del (h : GapW w0 w xs k v ys t W) (hk : k < xs.length) (h3 : xs[k].k = 3) (ht : t2 = goneO ((xs.take (k + 1)).map Oz.o)) : GapW w0 w xs (k + 1) v ys t2 W := by
  refine ⟨h.o, h.b, ?_, ht⟩
  rw [take_oz hk, insO_app, insO_no (show xs[k].o.k = 3 from h3), List.append_nil]
  exact h.r
theorem ins_take (hk : k < xs.length) (h3 : xs[k].k ≠ 3) : joinAll (insO ((xs.take (k + 1)).map Oz.o)) = joinG xs[k].o (joinAll (insO ((xs.take k).map Oz.o))) := by
  rw [take_oz hk, insO_app, insO_yes (show xs[k].o.k ≠ 3 from h3), joinAll_snoc]
theorem gone_take (hk : k < xs.length) (h3 : xs[k].k ≠ 3) : goneO ((xs.take (k + 1)).map Oz.o) = goneO ((xs.take k).map Oz.o) := by
  rw [take_oz hk, goneO_app, goneO_one, if_neg (show ¬ xs[k].o.k = 3 from h3)]; omega
theorem GapW.ins (h : GapW w0 w xs k v ys t W) (hk : k < xs.length) (h3 : xs[k].k ≠ 3) (hl : ∀ zs l, ys = zs ++ [l] → ¬ l.st = xs[k].st) (ho : GO w0 w.heap.size v3 (ys ++ [xs[k]]) W3) (hb : Below w.heap.size w W3) : GapW w0 w xs (k + 1) v3 (ys ++ [xs[k]]) t W3 := by
  refine ⟨ho, hb, ?_, h.t.trans (gone_take hk h3).symm⟩
  rw [ins_take hk h3, ← h.r, List.map_append, List.reverse_append]
  rcases nil_or_snoc ys with rfl | ⟨zs, l, rfl⟩
  · rfl
  · have := hl zs l rfl
    simp only [List.map_append, List.reverse_append, List.map_cons, List.map_nil, List.reverse_cons, List.reverse_nil, List.nil_append, List.cons_append]
    rw [joinG_no _ (show ¬ l.o.st = xs[k].o.st from this)]
theorem GapW.join {zs : List Oz} (h : GapW w0 w xs k v (zs ++ [l]) t W) (hk : k < xs.length) (h3 : xs[k].k ≠ 3) (hl : l.st = xs[k].st) (h2 : l2.o = { l.o with rs := l.rs ++ xs[k].rs }) (ho : GO w0 w.heap.size v3 (zs ++ [l2]) W3) (hb : Below w.heap.size w W3) : GapW w0 w xs (k + 1) v3 (zs ++ [l2]) t W3 := by
  refine ⟨ho, hb, ?_, h.t.trans (gone_take hk h3).symm⟩
  rw [ins_take hk h3, ← h.r]
  simp only [List.map_append, List.reverse_append, List.map_cons, List.map_nil, List.reverse_cons, List.reverse_nil, List.nil_append, List.cons_append]
  rw [joinG_yes _ (show l.o.st = xs[k].o.st from hl), h2]
  rfl
/-- Bounds of what is out so far. -/
theorem GapW.len (h : GapW w0 w xs k v ys t W) (hk : k ≤ xs.length) : ys.length ≤ k := by
  have e := congrArg List.length h.r
  have h1 := (sumR_joinAll (insO ((xs.take k).map Oz.o))).2
  have h2 := insO_len ((xs.take k).map Oz.o)
  simp only [List.length_reverse, List.length_map, List.length_take] at e h2
  omega
theorem GapW.rs (h : GapW w0 w xs k v ys t W) (hl : l ∈ ys) (hg : Gp (xs.map Oz.o)) : l.rs.length ≤ sumR (xs.map Oz.o) ∧ 0 < l.rs.length := by
  have hm : l.o ∈ joinAll (insO ((xs.take k).map Oz.o)) := by rw [← h.r]; simpa using List.mem_map_of_mem (f := Oz.o) hl
  have h1 := sumR_mem hm
  have h2 := (sumR_joinAll (insO ((xs.take k).map Oz.o))).1
  have h3 := sumR_insO ((xs.take k).map Oz.o)
  have h4 : sumR (xs.map Oz.o) = sumR ((xs.take k).map Oz.o) + sumR ((xs.drop k).map Oz.o) := by rw [← sumR_app, ← List.map_append, List.take_append_drop]
  have h5 : l.o.rs ≠ [] := joinAll_ind (P := fun o => o.rs ≠ []) (fun a b ha _ => by simp [ha]) _ (fun p hp => by
    obtain ⟨q1, q2⟩ := List.mem_filter.1 hp
    obtain ⟨y, hy, rfl⟩ := List.mem_map.1 q1
    obtain ⟨ht, hk1⟩ := hg _ (List.mem_map_of_mem (List.mem_of_mem_take hy))
    have h3 : y.o.k ≠ 3 := by simpa using q2
    have h4 : y.o.k = 2 := by rcases ht.kind with e | e | e <;> omega
    exact (ht.ins h4).2.2) _ hm
  have h6 : l.o.rs.length = l.rs.length := rfl
  have h7 : 0 < l.o.rs.length := List.length_pos_iff.2 h5
  omega
end

def GapP (w0 w : World) (xs : List Oz) (e : Ending) (w' : World) : Prop := ∃ v ys, e = .returned v ∧ (ys.map Oz.o).reverse = gapR (xs.map Oz.o) ∧ GO w0 w.heap.size v ys w' ∧ Below w.heap.size w w'
set_option maxHeartbeats 8000000 in
theorem gap_any (w0 : World) (u : Value) (xs : List Oz) (w : World) (hb : Below w0.heap.size w0 w) (hx : Row ozC w u xs) (hok : ∀ z ∈ xs, OpOk w0 z) (hsm : ∀ z ∈ xs, Sm z) (hg : Gp (xs.map Oz.o)) (hlen : xs.length ≤ 50000000) (hr : sumR (xs.map Oz.o) ≤ 50000000) (hn : goneO (xs.map Oz.o) ≤ 72057594037927936) :
    Calls Tryz.prog 61 #[u] w fun e w' => GapP w0 w xs e w' := by
  obtain ⟨a1, cap1, rfl⟩ := hx.shape
  have hbs := hb.size
  have HP0 := Lib.hid (show GapW w0 w xs 0 (.slice none 0 0) [] 0 w from ⟨GO.nil hb hb.size, Below.refl _ _, rfl, rfl⟩)
  have HAT := Lib.hid (fun (h0 : 0 < xs.length) => hx.ats h0)
  have HOK := Lib.hid hok
  have HSM := Lib.hid hsm
  have HG := Lib.hid hg
  have HN := Lib.hid hn
  obtain ⟨i0, hi, hz0, hz1, hz2⟩ := info_op
  obtain ⟨j1, hj1, hj10, hj11, hj12⟩ := info_i32
  clear hb hx hok hsm hg hn
  go_enter Tryz.func61, Tryz.ntmps61
  go_wp2
  go_loopw [3, 4, 5] (fun s3 s4 s5 wr => ∃ (k n c : Nat) (a : Option Addr) (t : Int) (ys : List Oz), k ≤ xs.length ∧ ys.length = n ∧ s3 = .slice a n c ∧ s4 = .int .i64 t ∧ s5 = .int .i64 k ∧ Hid (GapW w0 w xs k (.slice a n c) ys t wr)) (fun _ _ s5 _ => xs.length - (intOf s5).toNat)
  case atStart => exact ⟨0, 0, 0, none, 0, [], Nat.zero_le _, rfl, rfl, rfl, rfl, HP0⟩
  case round =>
    clear HP0
    obtain ⟨k, n, c, a, t, ys, hk, hyl, rfl, rfl, rfl, HP⟩ := hrel
    obtain ⟨wo, hwo⟩ : ∃ x : World, x = wr := ⟨_, rfl⟩
    subst hwo
    by_cases hlt : k < xs.length
    · obtain ⟨b1, o1, rfl, -, -, -, hbl, hat⟩ := HAT.out (by omega)
      have HLT := Lib.hid hlt
      have hyk := HP.out.len hk
      have HYL := Lib.hid hyl
      obtain ⟨c0, c1, c2, c3, c4⟩ := (hat k hlt).below HP.out.b
      have HB0 := Lib.hid (HP.out.b)
      have HZO := Lib.hid (HOK.out _ (List.getElem_mem hlt))
      have HZS := Lib.hid (HSM.out _ (List.getElem_mem hlt))
      have hzk := HG.out _ (List.mem_map_of_mem (f := Oz.o) (List.getElem_mem hlt))
      have hzr := sumR_mem (List.mem_map_of_mem (f := Oz.o) (List.getElem_mem hlt))
      have HSTEP := Lib.hid (gone_step hlt HP.out.t (fun o ho => (HG.out o ho).1) HN.out)
      have HDEL := Lib.hid (fun h3 t2 ht W (hb : Below wo.heap.size wo W) => (HP.out.below hb).del hlt h3 (t2 := t2) ht)
      have HINS := Lib.hid (fun h3 hl v3 W3 ho hb => HP.out.ins hlt h3 hl (v3 := v3) (W3 := W3) ho hb)
      have HJOIN := Lib.hid (fun h3 zs l (e : ys = zs ++ [l]) hl l2 h2 v3 W3 ho hb => GapW.join (l2 := l2) (v3 := v3) (W3 := W3) (e ▸ HP.out) hlt h3 hl h2 ho hb)
      have HRS := Lib.hid (fun l (hl : l ∈ ys) => HP.out.rs hl HG.out)
      have HGO := Lib.hid (fun W (hb : Below wo.heap.size wo W) => HP.out.o.below hb)
      have HBX := Lib.hid (fun W (hb : Below wo.heap.size wo W) => below_add HB0.out hb HB0.out.size)
      clear hat HAT HP
      generalize xs[k] = z at *
      have HX := Lib.hid (OAt.new wo z 56)
      have HB1 := Lib.hid (kbelow_one wo (.cells z.cs 56))
      by_cases h3 : z.k = 3
      · have q1 : (z.k == 3) = true := by simpa using h3
        have HD := Lib.hid (HDEL.out h3 _ (HSTEP.out.1 h3) _ HB1.out)
        clear HDEL HINS HJOIN HRS HSTEP hzk h3
        go_wp2
        go_roundw
        case rel => exact ⟨k + 1, _, _, _, _, _, HLT.out, HYL.out, rfl, rfl, by go_num, HD⟩
        case measure => have := HLT.out; simp [intOf]; omega
      · have q1 : (z.k == 3) = false := by simpa using h3
        have hk2 : z.k = 2 := by rcases hzk.1.kind with e | e | e; exact absurd e hzk.2; exact e; exact absurd e h3
        have hzr1 : z.rs.length ≤ 50000000 := by have e : z.o.rs.length = z.rs.length := rfl; omega
        have hzr0 : 0 < z.rs.length := List.length_pos_iff.2 (hzk.1.ins hk2).2.2
        have HI := Lib.hid (HINS.out h3)
        have HJ := Lib.hid (HJOIN.out h3)
        clear HDEL HINS HJOIN HSTEP hzk h3 hk2
        rcases nil_or_snoc ys with rfl | ⟨zs, l, rfl⟩
        · simp only [List.length_nil] at hyl
          subst hyl
          clear HJ HRS
          go_upto_region 10 with fail
          generalize hW1 : wo.alloc (.cells _ 56) = W1 at *
          refine region_classw (C := fun W => Below W1.heap.size W1 W) (by kernel_rfl) (by kernel_rfl) (Below.refl _ _).drew ?_
          repeat (first
            | (first
                 | refine w_skip (by rfl) (by rfl) ?_
                 | refine w_skipn (by rfl) (by rfl) ?_
               simp only [Act.put, List.setIfInBounds_toArray, List.set_cons_zero, List.set_cons_succ])
            | (first
                 | refine w_val (v := ?_) (by rfl) (fun w9 hS => ?_) ?_
                 | refine w_valg (v := ?_) (by rfl) (by rfl) (fun w9 hS => ?_) ?_
               rotate_left
               · skip
                 go_simp
                 try with_reducible rfl
               simp only [Act.put, List.setIfInBounds_toArray, List.set_cons_zero, List.set_cons_succ])
            | (first
                 | refine w_call (by rfl) (fun w9 hS => ?_) HK9.out ?_
                 | refine w_callg (by rfl) (by rfl) (fun w9 hS => ?_) HK9.out ?_
               · skip
                 go_simp
               simp only [Act.put, List.setIfInBounds_toArray, List.set_cons_zero, List.set_cons_succ]))
          refine w_end ?_
          intro w5 T5
          have HX5 := Lib.hid (HX.out.below T5)
          have HG5 := Lib.hid (HGO.out w5 (below_add HB1.out T5 HB1.out.size))
          have HB5 := Lib.hid (HBX.out w5 (below_add HB1.out T5 HB1.out.size))
          have HZR := Lib.hid (Row.built (C := ozC) w5 56 [z] (by simp [maxLen]))
          have HA := Lib.hid (HG5.out.below (kbelow_one w5 (.cells (Oz.cs z) 56)))
          have HSZ := Lib.hid (Nat.le_trans HB5.out.size (kbelow_one w5 (.cells (Oz.cs z) 56)).size)
          have HOY := Lib.hid (show World.ownsRow (w5.alloc (.cells (Oz.cs z) 56)) w.heap.size 56 5 (.slice a 0 c) 0 (fl ozC ([] : List Oz)) from by have := HA.out.own; rwa [HYL.out] at this)
          obtain ⟨x0, x1, x2, x3, x4⟩ := HX5.out
          clear T5
          go_wp2_with (at_builtin; go_loud (refine wpList_append_rowL (C := ozC) rfl (.tmp 54) (.tmp 56) 23 rfl w.heap.size 56 i0 _ 88 Tryz.underlying23 hi hz0 hz1 hz2 rfl (.slice a 0 c) 0 (fl ozC ([] : List Oz)) rfl HOY.out _ [z] rfl HZR.out (by simp) (by unfold maxLen; first | (simp; done) | (simp; omega) | omega) (by first | (simp; done) | (simp; omega) | omega) HSZ.out ?_); intro g3 cap3 w3 hown3 hgrow3 hlies3 hlt3)
          have HN2 := Lib.hid (HI.out (fun zs l e => by simp at e) _ _ (HA.out.push hgrow3 HYL.out hown3 (fun y hy => by obtain rfl := List.mem_singleton.1 hy; exact OpG.of HZO.out HZS.out _)) ((below_add HB5.out (kbelow_one w5 (.cells (Oz.cs z) 56)) HB5.out.size).trans ((Off.of_grown hgrow3 (fun q9 hg => hg)).below (S := fun q9 => (Value.slice a 0 c).ownBlock = some q9) (fun q9 hg => own_base HA.out.own hg) HSZ.out)))
          clear hown3 hgrow3 hlies3 hlt3
          go_roundw
          case rel => exact ⟨k + 1, _, _, _, _, ([] : List Oz) ++ [z], HLT.out, by rw [List.length_append, HYL.out]; rfl, rfl, rfl, by go_num, HN2⟩
          case measure => have := HLT.out; simp [intOf]; omega
        · have hrl := HRS.out l (by simp)
          obtain ⟨g, c', e, hgB, hcn, hcm, hAt⟩ := (HGO.out wo (Below.refl _ _)).at (by simp)
          injection e with e1 e2 e3
          subst e1 e3
          obtain ⟨m, hm⟩ : ∃ m, zs.length = m := ⟨_, rfl⟩
          obtain rfl : n = m + 1 := by rw [← hyl, ← hm]; simp
          have HM := Lib.hid hm
          have i1 : (m : Int) < (m : Int) + 1 := by omega
          have i2 : (0 : Int) ≤ (m : Int) := by omega
          have i3 : m < m + 1 := by omega
          have HLA := Lib.hid (fun W2 (hb : Below wo.heap.size wo W2) => (show OAt g (m * 5) l W2 ∧ ∀ o, W2.frozen? ⟨g, o, none⟩ = false from by
            have := hAt W2 hb zs.length (by simp)
            have e : (zs ++ [l])[zs.length]'(by simp) = l := by simp
            rw [e, hm] at this
            exact this))
          have HLE := Lib.hid (fun W (hb : Below wo.heap.size wo W) => (HGO.out W hb).el l (by simp))
          clear hAt HRS e2 hm
          go_upto_region 10 with fail
          generalize hW1 : wo.alloc (.cells _ 56) = W1 at *
          have K9 := Lib.hid (fun b (hd : decide (l.st = z.st) = b) w9 (hS : Below W1.heap.size W1 w9) => (rsame_any5 l.sv z.sv l.st z.st w9 ((HLE.out w9 (below_add HB1.out hS HB1.out.size)).ok (HGO.out w9 (below_add HB1.out hS HB1.out.size)).bel).s (HZO.out.s.below (HGO.out w9 (below_add HB1.out hS HB1.out.size)).bel (Nat.le_refl _))).mono fun e w' (h : _ ∧ ∃ q, _) => (⟨h.1.trans (by rw [hd]), by obtain ⟨q, hq⟩ := h.2; rw [hq]; exact blw_drewN hS q⟩ : e = .returned (.bool b) ∧ Below W1.heap.size W1 w'))
          by_cases hst : l.st = z.st
          · have HK9 := Lib.hid (K9.out true (decide_eq_true hst))
            clear K9
            refine region_classw (C := fun W => Below W1.heap.size W1 W) (by kernel_rfl) (by kernel_rfl) (Below.refl _ _).drew ?_
            repeat (first
              | (first
                   | refine w_skip (by rfl) (by rfl) ?_
                   | refine w_skipn (by rfl) (by rfl) ?_
                 simp only [Act.put, List.setIfInBounds_toArray, List.set_cons_zero, List.set_cons_succ])
              | (first
                   | refine w_val (v := ?_) (by rfl) (fun w9 hS => ?_) ?_
                   | refine w_valg (v := ?_) (by rfl) (by rfl) (fun w9 hS => ?_) ?_
                 rotate_left
                 · (obtain ⟨⟨l0, l1, l2, l3, l4⟩, -⟩ := HLA.out w9 (below_add HB1.out hS HB1.out.size); obtain ⟨x0, x1, x2, x3, x4⟩ := HX.out.below hS)
                   go_simp
                   try with_reducible rfl
                 simp only [Act.put, List.setIfInBounds_toArray, List.set_cons_zero, List.set_cons_succ])
              | (first
                   | refine w_call (by rfl) (fun w9 hS => ?_) HK9.out ?_
                   | refine w_callg (by rfl) (by rfl) (fun w9 hS => ?_) HK9.out ?_
                 · (obtain ⟨⟨l0, l1, l2, l3, l4⟩, -⟩ := HLA.out w9 (below_add HB1.out hS HB1.out.size); obtain ⟨x0, x1, x2, x3, x4⟩ := HX.out.below hS)
                   go_simp
                 simp only [Act.put, List.setIfInBounds_toArray, List.set_cons_zero, List.set_cons_succ]))
            refine w_end ?_
            intro w5 T5
            have HX5 := Lib.hid (HX.out.below T5)
            have HB15 := Lib.hid (below_add HB1.out T5 HB1.out.size)
            have HB5 := Lib.hid (HBX.out w5 HB15.out)
            have HG5 := Lib.hid (HGO.out w5 HB15.out)
            have HBE := Lib.hid (below_ad w5 (.cells #[] 21))
            have HE0 := Lib.hid (owns_below (owns_none w5 21 1) (Below.refl _ _).drew)
            have HLR := Lib.hid ((((HLE.out w5 HB15.out).ok HG5.out.bel).below HBE.out).r.rowC)
            have HSZ := Lib.hid HBE.out.size
            have HZR := Lib.hid (fun W (hb : Below w5.heap.size w5 W) => ((HZO.out.r.below HG5.out.bel).below hb).rowC)
            have HLF := Lib.hid (HLE.out w5 HB15.out)
            obtain ⟨⟨l0, l1, l2, l3, l4⟩, lf⟩ := HLA.out w5 HB15.out
            have lf2 := lf (m * 5 + 2)
            obtain ⟨x0, x1, x2, x3, x4⟩ := HX5.out
            obtain ⟨⟨p0, p1, p2, p3, p4⟩, pf⟩ := HLA.out _ (below_add HB15.out HBE.out HB15.out.size)
            have pf2 := pf (m * 5 + 2)
            obtain ⟨y0, y1, y2, y3, y4⟩ := HX5.out.below HBE.out
            clear T5 lf pf HK9 l0 l1 l3 l4 x0 x1 x3 x4 p0 p1 p3 p4 y0 y1 y3 y4
            go_wp2
            go_region_law
              (first
                | ((refine step_append_rowR (C := intC) (by rfl) (.tmp 42) (.tmp 47) 52 (by rfl) w5.heap.size 21 j1 (.int .i32 0) 4 Tryz.underlying52 hj1 hj10 hj11 hj12 (by rfl) (.slice (some ⟨w5.heap.size, 0, none⟩) 0 0) 0 [] (by rfl) HE0.out _ l.rs (by rfl) HLR.out hrl.2 (by unfold maxLen; omega) (by omega) HSZ.out ?_; intro g3 cap3 w3 hown3 hgrow3; have H3 := Lib.hid (bel_grown HBE.out HE0.out hgrow3); have HR3 := Lib.hid (HZR.out w3 H3.out); have HSZ3 := Lib.hid H3.out.size; have HO3 := Lib.hid (show w3.ownsRow w5.heap.size 21 1 (.slice (some ⟨g3, 0, none⟩) l.rs.length cap3) l.rs.length (l.rs.map (Value.int .i32)) from by have q9 := hown3; simp [fl_intC] at q9; exact q9); obtain ⟨⟨r0, r1, r2, r3, r4⟩, rf⟩ := HLA.out w3 (below_add HB15.out H3.out HB15.out.size); have rf2 := rf (m * 5 + 2); obtain ⟨s0, s1, s2, s3, s4⟩ := HX5.out.below H3.out; clear r0 r1 r3 r4 s0 s1 s3 s4 rf hown3 hgrow3))
                | ((refine step_append_rowR (C := intC) (by rfl) (.tmp 48) (.tmp 50) 52 (by rfl) w5.heap.size 21 j1 (.int .i32 0) 4 Tryz.underlying52 hj1 hj10 hj11 hj12 (by rfl) (.slice (some ⟨g3, 0, none⟩) l.rs.length cap3) l.rs.length (l.rs.map (Value.int .i32)) (by rfl) HO3.out _ z.rs (by rfl) HR3.out hzr0 (by unfold maxLen; omega) (by omega) HSZ3.out ?_; intro g4 cap4 w4 hown4 hgrow4; have H4 := Lib.hid (bel_grown H3.out HO3.out hgrow4); have HO4 := Lib.hid (show w4.ownsRow w5.heap.size 21 1 (.slice (some ⟨g4, 0, none⟩) (l.rs.length + z.rs.length) cap4) (l.rs.length + z.rs.length) ((l.rs ++ z.rs).map (Value.int .i32)) from by have q9 := hown4; simp [fl_intC] at q9; rw [List.map_append]; exact q9); obtain ⟨⟨r0, r1, r2, r3, r4⟩, rf⟩ := HLA.out w4 (below_add HB15.out H4.out HB15.out.size); have rf2 := rf (m * 5 + 2); clear r0 r1 r3 r4 rf hown4 hgrow4)))
            all_goals
              have HN2 := Lib.hid (HJ.out zs l rfl hst (runesG l g4 cap4 (l.rs ++ z.rs)) rfl _ _ ((HG5.out.below H4.out).runes HYL.out HM.out HG5.out.bel.size List.length_append HO4.out) (bel_set (below_add HB5.out H4.out HB5.out.size) hgB (Nat.le_refl _) _))
              go_wp2
              go_roundw
              case rel => exact ⟨k + 1, _, _, _, _, zs ++ [runesG l g4 cap4 (l.rs ++ z.rs)], HLT.out, by rw [← HYL.out]; simp, rfl, rfl, by go_num, HN2⟩
              case measure => have := HLT.out; simp [intOf]; omega
          · have HK9 := Lib.hid (K9.out false (decide_eq_false hst))
            clear K9
            refine region_classw (C := fun W => Below W1.heap.size W1 W) (by kernel_rfl) (by kernel_rfl) (Below.refl _ _).drew ?_
            repeat (first
              | (first
                   | refine w_skip (by rfl) (by rfl) ?_
                   | refine w_skipn (by rfl) (by rfl) ?_
                 simp only [Act.put, List.setIfInBounds_toArray, List.set_cons_zero, List.set_cons_succ])
              | (first
                   | refine w_val (v := ?_) (by rfl) (fun w9 hS => ?_) ?_
                   | refine w_valg (v := ?_) (by rfl) (by rfl) (fun w9 hS => ?_) ?_
                 rotate_left
                 · (obtain ⟨⟨l0, l1, l2, l3, l4⟩, -⟩ := HLA.out w9 (below_add HB1.out hS HB1.out.size); obtain ⟨x0, x1, x2, x3, x4⟩ := HX.out.below hS)
                   go_simp
                   try with_reducible rfl
                 simp only [Act.put, List.setIfInBounds_toArray, List.set_cons_zero, List.set_cons_succ])
              | (first
                   | refine w_call (by rfl) (fun w9 hS => ?_) HK9.out ?_
                   | refine w_callg (by rfl) (by rfl) (fun w9 hS => ?_) HK9.out ?_
                 · (obtain ⟨⟨l0, l1, l2, l3, l4⟩, -⟩ := HLA.out w9 (below_add HB1.out hS HB1.out.size); obtain ⟨x0, x1, x2, x3, x4⟩ := HX.out.below hS)
                   go_simp
                 simp only [Act.put, List.setIfInBounds_toArray, List.set_cons_zero, List.set_cons_succ]))
            refine w_end ?_
            intro w5 T5
            have HX5 := Lib.hid (HX.out.below T5)
            have HG5 := Lib.hid (HGO.out w5 (below_add HB1.out T5 HB1.out.size))
            have HB5 := Lib.hid (HBX.out w5 (below_add HB1.out T5 HB1.out.size))
            have HZR := Lib.hid (Row.built (C := ozC) w5 56 [z] (by simp [maxLen]))
            have HA := Lib.hid (HG5.out.below (kbelow_one w5 (.cells (Oz.cs z) 56)))
            have HSZ := Lib.hid (Nat.le_trans HB5.out.size (kbelow_one w5 (.cells (Oz.cs z) 56)).size)
            have HOY := Lib.hid (show World.ownsRow (w5.alloc (.cells (Oz.cs z) 56)) w.heap.size 56 5 (.slice (some ⟨g, 0, none⟩) (m + 1) c) (m + 1) (fl ozC (zs ++ [l])) from by have := HA.out.own; rwa [HYL.out] at this)
            obtain ⟨x0, x1, x2, x3, x4⟩ := HX5.out
            clear T5
            go_wp2_with (at_builtin; go_loud (refine wpList_append_rowL (C := ozC) rfl (.tmp 54) (.tmp 56) 23 rfl w.heap.size 56 i0 _ 88 Tryz.underlying23 hi hz0 hz1 hz2 rfl (.slice (some ⟨g, 0, none⟩) (m + 1) c) (m + 1) (fl ozC (zs ++ [l])) rfl HOY.out _ [z] rfl HZR.out (by simp) (by unfold maxLen; first | (simp; done) | (simp; omega) | omega) (by first | (simp; done) | (simp; omega) | omega) HSZ.out ?_); intro g3 cap3 w3 hown3 hgrow3 hlies3 hlt3)
            have HN2 := Lib.hid (HI.out (fun zs2 l2 e => by have e2 := List.append_inj_right' e rfl; simp only [List.cons.injEq, and_true] at e2; rw [← e2]; exact hst) _ _ (HA.out.push hgrow3 HYL.out hown3 (fun y hy => by obtain rfl := List.mem_singleton.1 hy; exact OpG.of HZO.out HZS.out _)) ((below_add HB5.out (kbelow_one w5 (.cells (Oz.cs z) 56)) HB5.out.size).trans ((Off.of_grown hgrow3 (fun q9 hg => hg)).below (S := fun q9 => (Value.slice (some ⟨g, 0, none⟩) (m + 1) c).ownBlock = some q9) (fun q9 hg => own_base HA.out.own hg) HSZ.out)))
            clear hown3 hgrow3 hlies3 hlt3
            go_roundw
            case rel => exact ⟨k + 1, _, _, _, _, (zs ++ [l]) ++ [z], HLT.out, by rw [List.length_append, HYL.out]; rfl, rfl, rfl, by go_num, HN2⟩
            case measure => have := HLT.out; simp [intOf]; omega

    · obtain rfl : k = xs.length := by omega
      have hyk := HP.out.len hk
      have HYL := Lib.hid hyl
      have HE := Lib.hid (show (ys.map Oz.o).reverse = joinAll (insO (xs.map Oz.o)) ∧ t = goneO (xs.map Oz.o) by have h1 := HP.out.r; have h2 := HP.out.t; rw [List.take_length] at h1 h2; exact ⟨h1, h2⟩)
      have HB5 := Lib.hid HP.out.b
      have HG5 := Lib.hid HP.out.o
      clear HP hk hlt
      by_cases h0 : 0 < t
      · have d0 : decide ((0 : Int) < t) = true := decide_eq_true h0
        have HZR := Lib.hid (Row.built (C := ozC) wo 56 [zD t] (by simp [maxLen]))
        have HA := Lib.hid (HG5.out.below (kbelow_one wo (.cells (Oz.cs (zD t)) 56)))
        have HSZ := Lib.hid (Nat.le_trans HB5.out.size (kbelow_one wo (.cells (Oz.cs (zD t)) 56)).size)
        have HOY := Lib.hid (show World.ownsRow (wo.alloc (.cells (Oz.cs (zD t)) 56)) w.heap.size 56 5 (.slice a n c) n (fl ozC ys) from by have := HA.out.own; rwa [HYL.out] at this)
        have HRR := Lib.hid (show ((ys ++ [zD t]).map Oz.o).reverse = gapR (xs.map Oz.o) by
          obtain ⟨e1, e2⟩ := HE.out
          rw [gapR, if_pos (e2 ▸ h0), List.map_append, List.reverse_append, e1, ← e2]
          rfl)
        go_wp2_with (at_builtin; go_loud (refine wpList_append_rowL (C := ozC) rfl (.tmp 60) (.tmp 63) 23 rfl w.heap.size 56 i0 _ 88 Tryz.underlying23 hi hz0 hz1 hz2 rfl (.slice a n c) n (fl ozC ys) rfl HOY.out _ [zD t] rfl HZR.out (by simp) (by unfold maxLen; first | (simp; done) | (simp; omega) | omega) (by first | (simp; done) | (simp; omega) | omega) HSZ.out ?_); intro g3 cap3 w3 hown3 hgrow3 hlies3 hlt3)
        go_ret
        exact ⟨_, ys ++ [zD t], rfl, HRR.out, HA.out.push hgrow3 HYL.out hown3 (fun y hy => by obtain rfl := List.mem_singleton.1 hy; exact OpG.of (okD _ _) ⟨by simp, by simp, by simp⟩ _), (below_add HB5.out (kbelow_one wo (.cells (Oz.cs (zD t)) 56)) HB5.out.size).trans ((Off.of_grown hgrow3 (fun q9 hg => hg)).below (S := fun q9 => (Value.slice a n c).ownBlock = some q9) (fun q9 hg => own_base HA.out.own hg) HSZ.out)⟩
      · have d0 : decide ((0 : Int) < t) = false := decide_eq_false h0
        have HRR := Lib.hid (show (ys.map Oz.o).reverse = gapR (xs.map Oz.o) by
          obtain ⟨e1, e2⟩ := HE.out
          rw [gapR, if_neg (e2 ▸ h0), e1])
        go_wp2
        go_ret
        exact ⟨_, ys, rfl, HRR.out, HG5.out, HB5.out⟩
end Go.Proofs.YtohgopibimgjfaaGreat

/- N31: the reference's Of, as plain data -/
namespace Go.Proofs.YtohgopibimgjfaaGreat
open Go.RowKit
set_option linter.unusedVariables false
set_option maxRecDepth 100000

/-- The reference's loop: out, and where the gap began. -/
structure RW (w : World) (xs : List Oz) (k f : Nat) (v : Value) (ys : List Oz) (W : World) : Prop where
  o : GO w w.heap.size v ys W
  r : (ys.map Oz.o).reverse = (refS ((xs.take k).map Oz.o)).1
  g : ((xs.take k).drop f).map Oz.o = (refS ((xs.take k).map Oz.o)).2
  f : f ≤ k
/-- Behind a gap. -/
structure RM (w : World) (xs : List Oz) (k : Nat) (v : Value) (ys : List Oz) (W : World) : Prop where
  o : GO w w.heap.size v ys W
  r : (ys.map Oz.o).reverse = refR ((xs.take k).map Oz.o)
section
variable {w W W2 W3 : World} {xs ys gy zs : List Oz} {k f : Nat} {v v3 : Value} {z l l2 : Oz}
theorem RW.below (h : RW w xs k f v ys W) (hb : Below W.heap.size W W2) : RW w xs k f v ys W2 := ⟨h.o.below hb, h.r, h.g, h.f⟩
theorem RM.below (h : RM w xs k v ys W) (hb : Below W.heap.size W W2) : RM w xs k v ys W2 := ⟨h.o.below hb, h.r⟩
theorem refS_take (hk : k < xs.length) : refS ((xs.take (k + 1)).map Oz.o) = refStep (refS ((xs.take k).map Oz.o)) xs[k].o := by rw [take_oz hk, refS_snoc]
theorem RW.skip (h : RW w xs k f v ys W) (hk : k < xs.length) (h1 : ¬ xs[k].k = 1) : RW w xs (k + 1) f v ys W := by
  have e := refS_take hk
  rw [refStep, if_neg (show ¬ xs[k].o.k = 1 from h1)] at e
  have hf := h.f
  refine ⟨h.o, by rw [e]; exact h.r, ?_, by omega⟩
  rw [e, ← h.g, List.take_succ_eq_append_getElem hk, List.drop_append_of_le_length (by rw [List.length_take]; omega), List.map_append]
  rfl
theorem RW.gap (h : RW w xs k f v ys W) (hg : (gy.map Oz.o).reverse = gapR (((xs.take k).drop f).map Oz.o)) (ho : GO w w.heap.size v3 (ys ++ gy) W3) : RM w xs k v3 (ys ++ gy) W3 :=
  ⟨ho, by rw [List.map_append, List.reverse_append, hg, h.r, h.g]; rfl⟩
theorem refS_one (hk : k < xs.length) (h1 : xs[k].k = 1) : refS ((xs.take (k + 1)).map Oz.o) = (rmerge xs[k].o (refR ((xs.take k).map Oz.o)), []) := by
  rw [refS_take hk, refStep, if_pos (show xs[k].o.k = 1 from h1)]; rfl
theorem drop_take (hk : k < xs.length) : ((xs.take (k + 1)).drop (k + 1)).map Oz.o = [] := by
  rw [List.drop_eq_nil_of_le (by rw [List.length_take]; omega)]; rfl
theorem RM.add (h : RM w xs k v ys W) (hk : k < xs.length) (h1 : xs[k].k = 1) (hl : ∀ zs l, ys = zs ++ [l] → ¬ (l.k = 1 ∧ l.pt = xs[k].pt)) (ho : GO w w.heap.size v3 (ys ++ [xs[k]]) W3) : RW w xs (k + 1) (k + 1) v3 (ys ++ [xs[k]]) W3 := by
  refine ⟨ho, ?_, by rw [refS_one hk h1]; exact drop_take hk, Nat.le_refl _⟩
  rw [refS_one hk h1, ← h.r, List.map_append, List.reverse_append]
  rcases nil_or_snoc ys with rfl | ⟨zs, l, rfl⟩
  · rfl
  · have := hl zs l rfl
    simp only [List.map_append, List.reverse_append, List.map_cons, List.map_nil, List.reverse_cons, List.reverse_nil, List.nil_append, List.cons_append]
    rw [rmerge_no _ (show ¬ (l.o.k = 1 ∧ l.o.pt = xs[k].o.pt) from this)]
theorem RM.merge (h : RM w xs k v (zs ++ [l]) W) (hk : k < xs.length) (h1 : xs[k].k = 1) (hl : l.k = 1 ∧ l.pt = xs[k].pt) (h2 : l2.o = { l.o with n := l.n + xs[k].n }) (ho : GO w w.heap.size v3 (zs ++ [l2]) W3) : RW w xs (k + 1) (k + 1) v3 (zs ++ [l2]) W3 := by
  refine ⟨ho, ?_, by rw [refS_one hk h1]; exact drop_take hk, Nat.le_refl _⟩
  rw [refS_one hk h1, ← h.r]
  simp only [List.map_append, List.reverse_append, List.map_cons, List.map_nil, List.reverse_cons, List.reverse_nil, List.nil_append, List.cons_append]
  rw [rmerge_yes _ (show l.o.k = 1 ∧ l.o.pt = xs[k].o.pt from hl), h2]
  rfl
/-- The first so many of what may be. -/
theorem take_tm (ht : Tame xs) (k : Nat) : (∀ o ∈ (xs.take k).map Oz.o, Tm o) ∧ sumN ((xs.take k).map Oz.o) ≤ sumN (xs.map Oz.o) ∧ (∀ o ∈ ((xs.take k).drop f).map Oz.o, Tm o) ∧ sumN (((xs.take k).drop f).map Oz.o) ≤ sumN (xs.map Oz.o) := by
  have h1 : ∀ o ∈ (xs.take k).map Oz.o, Tm o := fun o ho => ht.tm o (by obtain ⟨x, hx, rfl⟩ := List.mem_map.1 ho; exact List.mem_map_of_mem (List.mem_of_mem_take hx))
  have h2 : ∀ o ∈ (xs.drop k).map Oz.o, Tm o := fun o ho => ht.tm o (by obtain ⟨x, hx, rfl⟩ := List.mem_map.1 ho; exact List.mem_map_of_mem (List.mem_of_mem_drop hx))
  have h3 : ∀ o ∈ ((xs.take k).take f).map Oz.o, Tm o := fun o ho => h1 o (by obtain ⟨x, hx, rfl⟩ := List.mem_map.1 ho; exact List.mem_map_of_mem (List.mem_of_mem_take hx))
  have h4 : ∀ o ∈ ((xs.take k).drop f).map Oz.o, Tm o := fun o ho => h1 o (by obtain ⟨x, hx, rfl⟩ := List.mem_map.1 ho; exact List.mem_map_of_mem (List.mem_of_mem_drop hx))
  have e1 : sumN (xs.map Oz.o) = sumN ((xs.take k).map Oz.o) + sumN ((xs.drop k).map Oz.o) := by rw [← sumN_app, ← List.map_append, List.take_append_drop]
  have e2 : sumN ((xs.take k).map Oz.o) = sumN (((xs.take k).take f).map Oz.o) + sumN (((xs.take k).drop f).map Oz.o) := by rw [← sumN_app, ← List.map_append, List.take_append_drop]
  have n1 := sumN_nn h2
  have n2 := sumN_nn h3
  exact ⟨h1, by omega, h4, by omega⟩
theorem take_rs (xs : List Oz) (k f : Nat) : sumR ((xs.take k).map Oz.o) ≤ sumR (xs.map Oz.o) ∧ sumR (((xs.take k).drop f).map Oz.o) ≤ sumR (xs.map Oz.o) := by
  have e1 : sumR (xs.map Oz.o) = sumR ((xs.take k).map Oz.o) + sumR ((xs.drop k).map Oz.o) := by rw [← sumR_app, ← List.map_append, List.take_append_drop]
  have e2 : sumR ((xs.take k).map Oz.o) = sumR (((xs.take k).take f).map Oz.o) + sumR (((xs.take k).drop f).map Oz.o) := by rw [← sumR_app, ← List.map_append, List.take_append_drop]
  omega
theorem RM.eq (h : RM w xs k v ys W) (ht : Tame xs) : (ys.map Oz.o).reverse = tellR ((xs.take k).map Oz.o) := by
  have hn := ht.n
  obtain ⟨h1, h2, -, -⟩ := take_tm (f := 0) ht k
  rw [h.r, (ref_inv _ h1 (by omega)).eq]
theorem RM.len (h : RM w xs k v ys W) (ht : Tame xs) (hk : k ≤ xs.length) : ys.length ≤ k := by
  have hn := ht.n
  obtain ⟨h1, h2, -, -⟩ := take_tm (f := 0) ht k
  have h3 := (tell_kept _ h1 (by omega)).len
  rw [← h.eq ht] at h3
  simp only [List.length_reverse, List.length_map, List.length_take] at h3
  omega
theorem RW.len (h : RW w xs k f v ys W) (ht : Tame xs) (hk : k ≤ xs.length) : ys.length ≤ k := by
  have hn := ht.n
  obtain ⟨h1, h2, -, -⟩ := take_tm (f := 0) ht k
  have h3 := (tell_kept _ h1 (by omega)).len
  rw [← (ref_inv _ h1 (by omega)).eq, refR, ← h.r] at h3
  simp only [List.length_append, List.length_reverse, List.length_map, List.length_take] at h3
  omega
theorem RW.glen (h : RW w xs k f v ys W) (ht : Tame xs) (hk : k ≤ xs.length) (hg : (gy.map Oz.o).reverse = gapR (((xs.take k).drop f).map Oz.o)) : ys.length + gy.length ≤ k := by
  have hn := ht.n
  obtain ⟨h1, h2, -, -⟩ := take_tm (f := 0) ht k
  have h3 := (tell_kept _ h1 (by omega)).len
  rw [← (ref_inv _ h1 (by omega)).eq, refR, ← h.r, ← h.g, ← hg] at h3
  simp only [List.length_append, List.length_reverse, List.length_map, List.length_take] at h3
  omega
theorem RM.all (h : RM w xs xs.length v ys W) (ht : Tame xs) : (ys.map Oz.o).reverse = tellR (xs.map Oz.o) := by
  have := h.eq ht
  rwa [List.take_length] at this
theorem fin_no {X : List Opn} (h : (ys.map Oz.o).reverse = tellR X) (hl : ∀ zs l, ys = zs ++ [l] → ¬ (l.k = 1 ∧ l.pt.length = 0)) : ys.map Oz.o = formO X := by
  rw [formO, ← h]
  rcases nil_or_snoc ys with rfl | ⟨zs, l, rfl⟩
  · rfl
  · have hn := hl zs l rfl
    have e : ((zs ++ [l]).map Oz.o).reverse = l.o :: (zs.map Oz.o).reverse := by simp
    rw [e, settleR_no _ (show ¬ Idle l.o from fun hi => hn ⟨hi.1, by have : l.pt = [] := hi.2; rw [this]; rfl⟩)]
    simp
theorem fin_yes {X : List Opn} (h : ((zs ++ [l]).map Oz.o).reverse = tellR X) (h1 : l.k = 1) (h2 : l.pt.length = 0) : zs.map Oz.o = formO X := by
  rw [formO, ← h]
  have e : ((zs ++ [l]).map Oz.o).reverse = l.o :: (zs.map Oz.o).reverse := by simp
  rw [e, settleR_yes _ (show Idle l.o from ⟨h1, List.eq_nil_of_length_eq_zero h2⟩)]
  simp
theorem RM.mem (h : RM w xs k v ys W) (ht : Tame xs) (hl : l ∈ ys) : 0 ≤ l.n ∧ l.n ≤ sumN ((xs.take k).map Oz.o) ∧ l.rs.length ≤ sumR (xs.map Oz.o) := by
  have hn := ht.n
  obtain ⟨h1, h2, -, -⟩ := take_tm (f := 0) ht k
  have hm : l.o ∈ tellR ((xs.take k).map Oz.o) := by rw [← h.eq ht]; simpa using List.mem_map_of_mem (f := Oz.o) hl
  have q1 := (tell_tm h1 _ hm).nn
  have q2 := sumN_mem (tell_tm h1) hm
  have q3 := tell_sumN _ h1
  have q4 := sumR_mem hm
  have q5 := (tell_kept _ h1 (by omega)).rs
  have q6 := (take_rs xs k 0).1
  have q7 : l.o.rs.length = l.rs.length := rfl
  exact ⟨q1, by have : l.o.n = l.n := rfl; omega, by omega⟩
theorem RW.part (h : RW w xs k f v ys W) (ht : Tame xs) : Gp (((xs.take k).drop f).map Oz.o) ∧ goneO (((xs.take k).drop f).map Oz.o) ≤ 72057594037927936 := by
  have hn := ht.n
  obtain ⟨h1, h2, h3, h4⟩ := take_tm (f := f) ht k
  have h5 := gone_sumN h3
  refine ⟨?_, by omega⟩
  rw [h.g]
  exact (ref_inv _ h1 (by omega)).gp
theorem RM.sm (h : RM w xs k v ys W) (ht : Tame xs) (hr : sumR (xs.map Oz.o) ≤ 50000000) : ∀ z ∈ ys, Sm z := fun z hz => by
  have h1 := (h.mem ht hz).2.2
  have h2 := h.o.el z hz
  exact ⟨by omega, h2.hs, h2.hp⟩
/-- The last op's number laid anew. -/
@[reducible] def numG (l : Oz) (n : Int) : Oz := { l with n := n }
theorem GO.num {w0 : World} {B g c n m : Nat} {q : Int} (h : GO w0 B (.slice (some ⟨g, 0, none⟩) n c) (zs ++ [l]) W) (hn : (zs ++ [l]).length = n) (hm : zs.length = m) :
    GO w0 B (.slice (some ⟨g, 0, none⟩) n c) (zs ++ [numG l q]) (W.setCell ⟨g, m * 5 + 1, none⟩ (.int .i64 q)) := by
  subst hm
  have hl := h.el l (by simp)
  have hj : zs.length < (zs ++ [l]).length := by simp
  have e : (zs ++ [l])[zs.length] = l := by simp
  have := h.set hn hj (z := numG l q) (q := 1) (u := .int .i64 q) ⟨hl.r, hl.s, hl.p, hl.hs, hl.hp⟩ (fl_turn hj 1 (by decide) _ _ (by rw [e]; rfl))
  rwa [set_snoc] at this
/-- out without its last op. -/
theorem GO.cut {w0 : World} {B n c m : Nat} {a : Option Addr} (h : GO w0 B (.slice a n c) (zs ++ [l]) W) (hm : zs.length = m) : Orow W (.slice a m c) zs := by
  subst hm
  have := h.orow.head (hi := zs.length) (by simp)
  rwa [List.take_left] at this
end
end Go.Proofs.YtohgopibimgjfaaGreat

/- N32: the reference's Of -/
namespace Go.Proofs.YtohgopibimgjfaaGreat
open Go.RowKit
set_option linter.unusedVariables false
set_option maxRecDepth 100000

theorem sliced_yes {a : Option Addr} {lo hi c m : Nat} (h : c = lo) : sliced a lo hi c m = .slice a (hi - lo) (c - lo) := by
  unfold sliced
  rw [if_pos h]
theorem sliced_no {a : Option Addr} {lo hi c m : Nat} (h : ¬ c = lo) : sliced a lo hi c m = .slice (a.map fun x => x.add (lo * m)) (hi - lo) (c - lo) := by
  unfold sliced
  rw [if_neg h]
theorem row_cap {α : Type} {C : Cel α} {w : World} {a : Option Addr} {n c : Nat} {xs : List α} (h : Row C w (.slice a n c) xs) : xs.length ≤ c := by
  rcases h with ⟨ad, cap, e, rfl, -, -⟩ | ⟨b, off, cap, e, -, h1, -, -⟩
  · simp
  · injection e with _ _ e3; omega
theorem part_mem {xs : List Oz} {k f : Nat} {z : Oz} (h : z ∈ (xs.take k).drop f) : z ∈ xs := List.mem_of_mem_take (List.mem_of_mem_drop h)
/-- A gap's call. -/
theorem gapO {w wo : World} {a1 : Option Addr} {cap1 k f : Nat} {xs ys : List Oz} {v : Value} (hx : Orow w (.slice a1 xs.length cap1) xs) (hi : LIn xs) (ht : Tame xs) (h : RW w xs k f v ys wo) (hf : f ≤ k) (hk : k ≤ xs.length) :
    Calls Tryz.prog 61 #[sliced a1 f k cap1 5] wo fun e w' => GapP w wo ((xs.take k).drop f) e w' := by
  have hb := h.o.bel
  obtain ⟨p1, p2⟩ := h.part ht
  have hr := (take_rs xs k f).2
  have hi2 := hi.rs
  have hl := hi.len
  exact gap_any w _ ((xs.take k).drop f) wo hb ((hx.mid hf hk).below hb).row (fun z hz => hx.ok z (part_mem hz)) (fun z hz => hi.i.sm z (part_mem hz)) p1 (by rw [List.length_drop, List.length_take]; omega) (by omega) p2
def OfP (w : World) (xs : List Oz) (e : Ending) (w' : World) : Prop := ∃ v ys, e = .returned v ∧ ys.map Oz.o = formO (xs.map Oz.o) ∧ Oown (fun g => w.heap.size ≤ g) w' v ys ∧ Below w.heap.size w w'
set_option maxHeartbeats 8000000 in
theorem rof_any (u : Value) (xs : List Oz) (w : World) (hx : Orow w u xs) (hi : LIn xs) (ht : Tame xs) :
    Calls Tryz.prog 24 #[u] w fun e w' => OfP w xs e w' := by
  obtain ⟨a1, cap1, rfl⟩ := hx.shape
  have hcap1 := row_cap hx.row
  have hlen := hi.len
  have hn50 := ht.n
  have HP0 := Lib.hid (show RW w xs 0 0 (.slice none 0 0) [] w from ⟨GO.nil (Below.refl _ _) (Nat.le_refl _), rfl, rfl, Nat.le_refl _⟩)
  have HAT := Lib.hid (fun (h0 : 0 < xs.length) => hx.row.ats h0)
  have HX := Lib.hid hx
  have HI := Lib.hid hi
  have HT := Lib.hid ht
  obtain ⟨i0, hi, hz0, hz1, hz2⟩ := info_op
  clear hx ht
  go_enter Tryz.func24, Tryz.ntmps24
  go_wp2
  go_loopw [3, 4, 5] (fun s3 s4 s5 wr => ∃ (k f n c : Nat) (a : Option Addr) (ys : List Oz), k ≤ xs.length ∧ f ≤ k ∧ ys.length = n ∧ s3 = .slice a n c ∧ s4 = .int .i64 f ∧ s5 = .int .i64 k ∧ Hid (RW w xs k f (.slice a n c) ys wr)) (fun _ _ s5 _ => xs.length + 1 - (intOf s5).toNat)
  case atStart => exact ⟨0, 0, 0, 0, none, [], Nat.zero_le _, Nat.le_refl _, rfl, rfl, rfl, rfl, HP0⟩
  case round =>
    clear HP0
    obtain ⟨k, f, n, c, a, ys, hk, hf, hyl, rfl, rfl, rfl, HP⟩ := hrel
    obtain ⟨wo, hwo⟩ : ∃ x : World, x = wr := ⟨_, rfl⟩
    subst hwo
    have HYL := Lib.hid hyl
    have hyk := HP.out.len HT.out hk
    by_cases hlt : k < xs.length
    · obtain ⟨b1, o1, rfl, -, hcap, hcm, hbl, hat⟩ := HAT.out (by omega)
      have HLT := Lib.hid hlt
      have HZC := Lib.hid (fun W (hb : Below w.heap.size w W) => (hat k hlt).below hb)
      have HSK := Lib.hid (fun h1 => HP.out.skip hlt h1)
      obtain ⟨cc0, cc1, cc2, cc3, cc4⟩ := HZC.out wo HP.out.o.bel
      by_cases h1 : xs[k].k = 1
      · have q1 : (xs[k].k != 1) = false := by simpa using h1
        have qk : ((k : Int) == (xs.length : Int)) = false := by simp; omega
        have HADD := Lib.hid (fun v ys W (h : RM w xs k v ys W) hl v3 W3 ho => h.add hlt h1 hl (v3 := v3) (W3 := W3) ho)
        have HMRG := Lib.hid (fun v zs l W (h : RM w xs k v (zs ++ [l]) W) hl l2 h2 v3 W3 ho => h.merge hlt h1 hl (l2 := l2) h2 (v3 := v3) (W3 := W3) ho)
        have HZG := Lib.hid (fun W => OpG.of (HX.out.ok _ (List.getElem_mem hlt)) (HI.out.i.sm _ (List.getElem_mem hlt)) W)
        have HZO := Lib.hid (HX.out.ok _ (List.getElem_mem hlt))
        have HZN := Lib.hid (show 0 ≤ xs[k].n ∧ sumN ((xs.take k).map Oz.o) + xs[k].n ≤ 72057594037927936 by
          have q2 := (take_tm (f := 0) HT.out (k + 1)).2.1
          rw [take_oz hlt, sumN_app] at q2
          have q3 : sumN [xs[k].o] = xs[k].n := by simp [sumN, Oz.o]
          have q4 := (HT.out.tm _ (List.mem_map_of_mem (f := Oz.o) (List.getElem_mem hlt))).nn
          exact ⟨q4, by omega⟩)
        have HGLN := Lib.hid (fun gy hgy => HP.out.glen (gy := gy) HT.out hk hgy)
        have HGB := Lib.hid (gapO HX.out HI.out HT.out HP.out hf hk)
        rw [sliced_no (show ¬ cap1 = f by omega)] at HGB
        simp only [Option.map_some, Go.WideShapes.add_plain] at HGB
        clear hat HAT h1 HSK
        generalize xs[k] = z at *
        go_upto_region 8 with (first
          | (go_at_call 61; go_loud (refine HGB.out.mono ?_; rintro e wg ⟨vg, gy, rfl, hgy, hgo, hgb⟩; obtain ⟨ga, gc, rfl, -, -⟩ := own_shape hgo.own; have HGY := Lib.hid hgy; have HGL := Lib.hid (HGLN.out _ hgy); have hgl := HGL.out; have HG2 := Lib.hid (HP.out.o.below hgb); have HGR := Lib.hid hgo.orow.row; have HGE := Lib.hid hgo.el; have HOW := Lib.hid (show wg.ownsRow w.heap.size 56 5 (.slice a n c) n (fl ozC ys) from by have := HG2.out.own; rwa [HYL.out] at this); have HSZ := Lib.hid HG2.out.bel.size; clear hgy hgo hgb))
          | (at_builtin; go_loud (refine wpList_append_row (C := ozC) rfl (.tmp 26) (.tmp 31) 23 rfl w.heap.size 56 i0 _ 88 Tryz.underlying23 hi hz0 hz1 hz2 rfl (.slice a n c) n (fl ozC ys) rfl HOW.out _ gy rfl HGR.out (by unfold maxLen; omega) (by omega) HSZ.out ?_; intro v3 w3 hown3 hgrow3; have HO3 := Lib.hid (HG2.out.push hgrow3 HYL.out hown3 HGE.out); obtain ⟨a3, c3, rfl, -, -⟩ := own_shape hown3; have HM := Lib.hid (HP.out.gap HGY.out HO3.out); generalize hN : n + gy.length = N at *; clear hown3 hgrow3)))
        have HZL := Lib.hid (show (ys ++ gy).length = N by rw [List.length_append, HYL.out]; exact hN)
        have hNb : N ≤ k := by rw [← hN]; omega
        have hkb : k ≤ 50000000 := by omega
        have HMEM := Lib.hid (fun l (hl : l ∈ ys ++ gy) => HM.out.mem HT.out hl)
        clear hN hgl HP HYL HGY HGL HGR HGE HG2 HOW HO3 HGB
        generalize ys ++ gy = Z at *
        rcases nil_or_snoc Z with rfl | ⟨zs, l, rfl⟩
        · obtain rfl : N = 0 := by have := HZL.out; simpa using this.symm
          go_upto_region 11 with fail
          refine region_classw (C := fun W => Below w3.heap.size w3 W) (by kernel_rfl) (by kernel_rfl) (Below.refl _ _).drew ?_
          repeat (first
            | (first
                 | refine w_skip (by rfl) (by rfl) ?_
                 | refine w_skipn (by rfl) (by rfl) ?_
               simp only [Act.put, List.setIfInBounds_toArray, List.set_cons_zero, List.set_cons_succ])
            | (first
                 | refine w_val (v := ?_) (by rfl) (fun w9 hS => ?_) ?_
                 | refine w_valg (v := ?_) (by rfl) (by rfl) (fun w9 hS => ?_) ?_
               rotate_left
               · skip
                 go_simp
                 try with_reducible rfl
               simp only [Act.put, List.setIfInBounds_toArray, List.set_cons_zero, List.set_cons_succ])
            | (first
                 | refine w_call (by rfl) (fun w9 hS => ?_) HK9.out ?_
                 | refine w_callg (by rfl) (by rfl) (fun w9 hS => ?_) HK9.out ?_
               · skip
                 go_simp
               simp only [Act.put, List.setIfInBounds_toArray, List.set_cons_zero, List.set_cons_succ]))
          refine w_end ?_
          intro w5 T5
          have HG5 := Lib.hid (HM.out.o.below T5)
          have HZR := Lib.hid (Row.built (C := ozC) w5 56 [z] (by simp [maxLen]))
          have HA := Lib.hid (HG5.out.below (kbelow_one w5 (.cells (Oz.cs z) 56)))
          have HSZ := Lib.hid HA.out.bel.size
          have HOY := Lib.hid (show World.ownsRow (w5.alloc (.cells (Oz.cs z) 56)) w.heap.size 56 5 (.slice a3 0 c3) 0 (fl ozC ([] : List Oz)) from by have := HA.out.own; rwa [HZL.out] at this)
          obtain ⟨x0, x1, x2, x3, x4⟩ := HZC.out w5 HG5.out.bel
          clear T5
          go_wp2_with (at_builtin; go_loud (refine wpList_append_rowL (C := ozC) rfl (.tmp 80) (.tmp 85) 23 rfl w.heap.size 56 i0 _ 88 Tryz.underlying23 hi hz0 hz1 hz2 rfl (.slice a3 0 c3) 0 (fl ozC ([] : List Oz)) rfl HOY.out _ [z] rfl HZR.out (by simp) (by unfold maxLen; first | (simp; done) | (simp; omega) | omega) (by first | (simp; done) | (simp; omega) | omega) HSZ.out ?_); intro g6 cap6 w6 hown6 hgrow6 hlies6 hlt6)
          have HN6 := Lib.hid (HADD.out _ _ _ HM.out (fun zs l e => by simp at e) _ _ (HA.out.push hgrow6 HZL.out hown6 (fun y hy => by obtain rfl := List.mem_singleton.1 hy; exact HZG.out _)))
          clear hown6 hgrow6 hlies6 hlt6
          go_roundw
          case rel => exact ⟨k + 1, k + 1, _, _, _, ([] : List Oz) ++ [z], HLT.out, Nat.le_refl _, by rw [List.length_append, HZL.out]; rfl, rfl, by go_num, by go_num, HN6⟩
          case measure => have := HLT.out; simp [intOf]; omega
        · obtain ⟨m, hm⟩ : ∃ m, zs.length = m := ⟨_, rfl⟩
          obtain rfl : N = m + 1 := by have := HZL.out; rw [← hm, ← this]; simp
          obtain ⟨g3, c4', e, hgB, hcn, hcm4, hAt⟩ := HM.out.o.at (by simp)
          injection e with e1 e2 e3
          subst e1 e3
          have HLA := Lib.hid (fun W2 (hb : Below w3.heap.size w3 W2) => (show OAt g3 (m * 5) l W2 ∧ ∀ o, W2.frozen? ⟨g3, o, none⟩ = false from by
            have := hAt W2 hb zs.length (by simp)
            have e : (zs ++ [l])[zs.length]'(by simp) = l := by simp
            rw [e, hm] at this
            exact this))
          have HMM := Lib.hid hm
          have hln := HMEM.out l (by simp)
          have HLE := Lib.hid (fun W (hb : Below w3.heap.size w3 W) => ((HM.out.o.below hb).el l (by simp)).ok (HM.out.o.below hb).bel)
          have i1 : (m : Int) < (m : Int) + 1 := by omega
          have i2 : (0 : Int) ≤ (m : Int) := by omega
          have i3 : m < m + 1 := by omega
          clear hAt e2 hm HMEM
          by_cases hk1 : l.k = 1
          rotate_left
          · have q1 : (l.k == 1) = false := by simpa using hk1
            have hnd : ¬ (l.k = 1 ∧ l.pt = z.pt) := fun h => hk1 h.1
            clear hk1
            go_upto_region 11 with fail
            refine region_classw (C := fun W => Below w3.heap.size w3 W) (by kernel_rfl) (by kernel_rfl) (Below.refl _ _).drew ?_
            repeat (first
              | (first
                   | refine w_skip (by rfl) (by rfl) ?_
                   | refine w_skipn (by rfl) (by rfl) ?_
                 simp only [Act.put, List.setIfInBounds_toArray, List.set_cons_zero, List.set_cons_succ])
              | (first
                   | refine w_val (v := ?_) (by rfl) (fun w9 hS => ?_) ?_
                   | refine w_valg (v := ?_) (by rfl) (by rfl) (fun w9 hS => ?_) ?_
                 rotate_left
                 · (obtain ⟨⟨l0, l1, l2, l3, l4⟩, -⟩ := HLA.out w9 hS; obtain ⟨x0, x1, x2, x3, x4⟩ := HZC.out w9 (HM.out.o.below hS).bel)
                   go_simp
                   try with_reducible rfl
                 simp only [Act.put, List.setIfInBounds_toArray, List.set_cons_zero, List.set_cons_succ])
              | (first
                   | refine w_call (by rfl) (fun w9 hS => ?_) HK9.out ?_
                   | refine w_callg (by rfl) (by rfl) (fun w9 hS => ?_) HK9.out ?_
                 · (obtain ⟨⟨l0, l1, l2, l3, l4⟩, -⟩ := HLA.out w9 hS; obtain ⟨x0, x1, x2, x3, x4⟩ := HZC.out w9 (HM.out.o.below hS).bel)
                   go_simp
                 simp only [Act.put, List.setIfInBounds_toArray, List.set_cons_zero, List.set_cons_succ]))
            refine w_end ?_
            intro w5 T5
            have HG5 := Lib.hid (HM.out.o.below T5)
            have HZR := Lib.hid (Row.built (C := ozC) w5 56 [z] (by simp [maxLen]))
            have HA := Lib.hid (HG5.out.below (kbelow_one w5 (.cells (Oz.cs z) 56)))
            have HSZ := Lib.hid HA.out.bel.size
            have HOY := Lib.hid (show World.ownsRow (w5.alloc (.cells (Oz.cs z) 56)) w.heap.size 56 5 (.slice (some ⟨g3, 0, none⟩) (m + 1) c3) (m + 1) (fl ozC (zs ++ [l])) from by have := HA.out.own; rwa [HZL.out] at this)
            obtain ⟨x0, x1, x2, x3, x4⟩ := HZC.out w5 HG5.out.bel
            clear T5
            go_wp2_with (at_builtin; go_loud (refine wpList_append_rowL (C := ozC) rfl (.tmp 80) (.tmp 85) 23 rfl w.heap.size 56 i0 _ 88 Tryz.underlying23 hi hz0 hz1 hz2 rfl (.slice (some ⟨g3, 0, none⟩) (m + 1) c3) (m + 1) (fl ozC (zs ++ [l])) rfl HOY.out _ [z] rfl HZR.out (by simp) (by unfold maxLen; first | (simp; done) | (simp; omega) | omega) (by first | (simp; done) | (simp; omega) | omega) HSZ.out ?_); intro g6 cap6 w6 hown6 hgrow6 hlies6 hlt6)
            have HN6 := Lib.hid (HADD.out _ _ _ HM.out (fun zs2 l2 e => by have e2 := List.append_inj_right' e rfl; simp only [List.cons.injEq, and_true] at e2; rw [← e2]; exact hnd) _ _ (HA.out.push hgrow6 HZL.out hown6 (fun y hy => by obtain rfl := List.mem_singleton.1 hy; exact HZG.out _)))
            clear hown6 hgrow6 hlies6 hlt6
            go_roundw
            case rel => exact ⟨k + 1, k + 1, _, _, _, (zs ++ [l]) ++ [z], HLT.out, Nat.le_refl _, by rw [List.length_append, HZL.out]; rfl, rfl, by go_num, by go_num, HN6⟩
            case measure => have := HLT.out; simp [intOf]; omega
          have q1 : (l.k == 1) = true := by simpa using hk1
          have K9 := Lib.hid (fun b (hd : decide (l.pt = z.pt) = b) w9 (hS : Below w3.heap.size w3 w9) => (rsame_any6 l.pv z.pv l.pt z.pt w9 (HLE.out w9 hS).p (HZO.out.below (HM.out.o.below hS).bel).p).mono fun e w' (h : _ ∧ ∃ q, _) => (⟨h.1.trans (by rw [hd]), by obtain ⟨q, hq⟩ := h.2; rw [hq]; exact blw_drewN hS q⟩ : e = .returned (.bool b) ∧ Below w3.heap.size w3 w'))
          by_cases hpt : l.pt = z.pt
          rotate_left
          · have hnd : ¬ (l.k = 1 ∧ l.pt = z.pt) := fun h => hpt h.2
            have HK9 := Lib.hid (K9.out false (decide_eq_false hpt))
            clear hk1 K9 hpt
            go_upto_region 11 with fail
            refine region_classw (C := fun W => Below w3.heap.size w3 W) (by kernel_rfl) (by kernel_rfl) (Below.refl _ _).drew ?_
            repeat (first
              | (first
                   | refine w_skip (by rfl) (by rfl) ?_
                   | refine w_skipn (by rfl) (by rfl) ?_
                 simp only [Act.put, List.setIfInBounds_toArray, List.set_cons_zero, List.set_cons_succ])
              | (first
                   | refine w_val (v := ?_) (by rfl) (fun w9 hS => ?_) ?_
                   | refine w_valg (v := ?_) (by rfl) (by rfl) (fun w9 hS => ?_) ?_
                 rotate_left
                 · (obtain ⟨⟨l0, l1, l2, l3, l4⟩, -⟩ := HLA.out w9 hS; obtain ⟨x0, x1, x2, x3, x4⟩ := HZC.out w9 (HM.out.o.below hS).bel)
                   go_simp
                   try with_reducible rfl
                 simp only [Act.put, List.setIfInBounds_toArray, List.set_cons_zero, List.set_cons_succ])
              | (first
                   | refine w_call (by rfl) (fun w9 hS => ?_) HK9.out ?_
                   | refine w_callg (by rfl) (by rfl) (fun w9 hS => ?_) HK9.out ?_
                 · (obtain ⟨⟨l0, l1, l2, l3, l4⟩, -⟩ := HLA.out w9 hS; obtain ⟨x0, x1, x2, x3, x4⟩ := HZC.out w9 (HM.out.o.below hS).bel)
                   go_simp
                 simp only [Act.put, List.setIfInBounds_toArray, List.set_cons_zero, List.set_cons_succ]))
            refine w_end ?_
            intro w5 T5
            have HG5 := Lib.hid (HM.out.o.below T5)
            have HZR := Lib.hid (Row.built (C := ozC) w5 56 [z] (by simp [maxLen]))
            have HA := Lib.hid (HG5.out.below (kbelow_one w5 (.cells (Oz.cs z) 56)))
            have HSZ := Lib.hid HA.out.bel.size
            have HOY := Lib.hid (show World.ownsRow (w5.alloc (.cells (Oz.cs z) 56)) w.heap.size 56 5 (.slice (some ⟨g3, 0, none⟩) (m + 1) c3) (m + 1) (fl ozC (zs ++ [l])) from by have := HA.out.own; rwa [HZL.out] at this)
            obtain ⟨x0, x1, x2, x3, x4⟩ := HZC.out w5 HG5.out.bel
            clear T5
            go_wp2_with (at_builtin; go_loud (refine wpList_append_rowL (C := ozC) rfl (.tmp 80) (.tmp 85) 23 rfl w.heap.size 56 i0 _ 88 Tryz.underlying23 hi hz0 hz1 hz2 rfl (.slice (some ⟨g3, 0, none⟩) (m + 1) c3) (m + 1) (fl ozC (zs ++ [l])) rfl HOY.out _ [z] rfl HZR.out (by simp) (by unfold maxLen; first | (simp; done) | (simp; omega) | omega) (by first | (simp; done) | (simp; omega) | omega) HSZ.out ?_); intro g6 cap6 w6 hown6 hgrow6 hlies6 hlt6)
            have HN6 := Lib.hid (HADD.out _ _ _ HM.out (fun zs2 l2 e => by have e2 := List.append_inj_right' e rfl; simp only [List.cons.injEq, and_true] at e2; rw [← e2]; exact hnd) _ _ (HA.out.push hgrow6 HZL.out hown6 (fun y hy => by obtain rfl := List.mem_singleton.1 hy; exact HZG.out _)))
            clear hown6 hgrow6 hlies6 hlt6
            go_roundw
            case rel => exact ⟨k + 1, k + 1, _, _, _, (zs ++ [l]) ++ [z], HLT.out, Nat.le_refl _, by rw [List.length_append, HZL.out]; rfl, rfl, by go_num, by go_num, HN6⟩
            case measure => have := HLT.out; simp [intOf]; omega
          have HK9 := Lib.hid (K9.out true (decide_eq_true hpt))
          have HDO := Lib.hid (And.intro hk1 hpt)
          clear hk1 K9 hpt
          go_upto_region 11 with fail
          refine region_classw (C := fun W => Below w3.heap.size w3 W) (by kernel_rfl) (by kernel_rfl) (Below.refl _ _).drew ?_
          repeat (first
            | (first
                 | refine w_skip (by rfl) (by rfl) ?_
                 | refine w_skipn (by rfl) (by rfl) ?_
               simp only [Act.put, List.setIfInBounds_toArray, List.set_cons_zero, List.set_cons_succ])
            | (first
                 | refine w_val (v := ?_) (by rfl) (fun w9 hS => ?_) ?_
                 | refine w_valg (v := ?_) (by rfl) (by rfl) (fun w9 hS => ?_) ?_
               rotate_left
               · (obtain ⟨⟨l0, l1, l2, l3, l4⟩, -⟩ := HLA.out w9 hS; obtain ⟨x0, x1, x2, x3, x4⟩ := HZC.out w9 (HM.out.o.below hS).bel)
                 go_simp
                 try with_reducible rfl
               simp only [Act.put, List.setIfInBounds_toArray, List.set_cons_zero, List.set_cons_succ])
            | (first
                 | refine w_call (by rfl) (fun w9 hS => ?_) HK9.out ?_
                 | refine w_callg (by rfl) (by rfl) (fun w9 hS => ?_) HK9.out ?_
               · (obtain ⟨⟨l0, l1, l2, l3, l4⟩, -⟩ := HLA.out w9 hS; obtain ⟨x0, x1, x2, x3, x4⟩ := HZC.out w9 (HM.out.o.below hS).bel)
                 go_simp
               simp only [Act.put, List.setIfInBounds_toArray, List.set_cons_zero, List.set_cons_succ]))
          refine w_end ?_
          intro w5 T5
          have hzn := HZN.out
          have e3 : wrap64 (l.n + z.n) = l.n + z.n := by
            rw [show wrap64 (l.n + z.n) = IntKind.i64.wrap (l.n + z.n) from (Go.IntWalk.i64_left _).symm, IntKind.wrap_i64]; omega
          have HG5 := Lib.hid (HM.out.o.below T5)
          obtain ⟨⟨l0, l1, l2, l3, l4⟩, lf⟩ := HLA.out w5 T5
          have lf1 := lf (m * 5 + 1)
          obtain ⟨x0, x1, x2, x3, x4⟩ := HZC.out w5 (HM.out.o.below T5).bel
          have HN6 := Lib.hid (((HMRG.out _ _ _ _ HM.out HDO.out (numG l (l.n + z.n)) rfl _ _ (HG5.out.num (q := l.n + z.n) HZL.out HMM.out))).below (Below.refl _ _).drew)
          rw [← e3] at HN6
          have HE3 := Lib.hid e3
          clear T5 lf l0 l2 l3 l4 x0 x2 x3 x4 hzn hln
          go_wp2
          go_region_law (fail)
          all_goals
            go_wp2
            go_roundw
            case rel => exact ⟨k + 1, k + 1, _, _, _, zs ++ [numG l (wrap64 (l.n + z.n))], HLT.out, Nat.le_refl _, by rw [← HZL.out]; simp, rfl, by go_num, by go_num, HN6⟩
            case measure => have := HLT.out; simp [intOf]; omega
      · have q1 : (xs[k].k != 1) = true := by simpa using h1
        have HN := Lib.hid (HSK.out h1)
        clear hat HAT h1
        generalize xs[k] = z at *
        go_wp2
        go_roundw
        case rel => exact ⟨k + 1, f, n, c, a, ys, HLT.out, by omega, HYL.out, rfl, rfl, by go_num, HN⟩
        case measure => have := HLT.out; simp [intOf]; omega
    · obtain rfl : k = xs.length := by omega
      have HGLN := Lib.hid (fun gy hgy => HP.out.glen (gy := gy) HT.out hk hgy)
      have HGB := Lib.hid (gapO HX.out HI.out HT.out HP.out hf (Nat.le_refl _))
      by_cases hcf : cap1 = f
      · obtain rfl : f = xs.length := by omega
        obtain rfl : cap1 = xs.length := by omega
        rw [sliced_yes rfl, Nat.sub_self] at HGB
        clear hf hk hcap1 hcf hlt
        go_upto_region 8 with (first
          | (go_at_call 61; go_loud (refine HGB.out.mono ?_; rintro e wg ⟨vg, gy, rfl, hgy, hgo, hgb⟩; obtain ⟨ga, gc, rfl, -, -⟩ := own_shape hgo.own; have HGY := Lib.hid hgy; have HGL := Lib.hid (HGLN.out _ hgy); have hgl := HGL.out; have HG2 := Lib.hid (HP.out.o.below hgb); have HGR := Lib.hid hgo.orow.row; have HGE := Lib.hid hgo.el; have HOW := Lib.hid (show wg.ownsRow w.heap.size 56 5 (.slice a n c) n (fl ozC ys) from by have := HG2.out.own; rwa [HYL.out] at this); have HSZ := Lib.hid HG2.out.bel.size; clear hgy hgo hgb))
          | (at_builtin; go_loud (refine wpList_append_row (C := ozC) rfl (.tmp 26) (.tmp 31) 23 rfl w.heap.size 56 i0 _ 88 Tryz.underlying23 hi hz0 hz1 hz2 rfl (.slice a n c) n (fl ozC ys) rfl HOW.out _ gy rfl HGR.out (by unfold maxLen; omega) (by omega) HSZ.out ?_; intro v3 w3 hown3 hgrow3; have HO3 := Lib.hid (HG2.out.push hgrow3 HYL.out hown3 HGE.out); obtain ⟨a3, c3, rfl, -, -⟩ := own_shape hown3; have HM := Lib.hid (HP.out.gap HGY.out HO3.out); generalize hN : n + gy.length = N at *; clear hown3 hgrow3)))
        have HRV := Lib.hid (HM.out.all HT.out)
        have HSM := Lib.hid (HM.out.sm HT.out HI.out.rs)
        have HZL := Lib.hid (show (ys ++ gy).length = N by rw [List.length_append, HYL.out]; exact hN)
        have hNb : N ≤ xs.length := by rw [← hN]; omega
        have HB3 := Lib.hid HM.out.o.bel
        have hN2 := hN
        clear hN hgl HP HAT HYL HGY HGL HGR HGE HG2 HOW HO3 HGB
        generalize ys ++ gy = Z at *
        rcases nil_or_snoc Z with rfl | ⟨zs, l, rfl⟩
        · obtain rfl : N = 0 := by have := HZL.out; simpa using this.symm
          have HC := Lib.hid (rocopy_any _ _ _ HM.out.o.orow (by simp) (fun z hz => by simp at hz))
          have HF := Lib.hid (fin_no HRV.out (fun zs l e => by simp at e))
          go_wp2_with (go_at_call 11; (with_reducible refine HC.out.mono ?_); rintro e w5 ⟨v5, y5, rfl, he, ho, hb⟩; have HR := Lib.hid (And.intro (he.trans HF.out) (And.intro (ho.mono (F' := fun g => w.heap.size ≤ g) fun g hg => Nat.le_trans HB3.out.size hg) (below_add HB3.out hb HB3.out.size))); clear he ho hb)
          go_ret
          exact ⟨_, y5, rfl, HR.out⟩
        · obtain ⟨m, hm⟩ : ∃ m, zs.length = m := ⟨_, rfl⟩
          obtain rfl : N = m + 1 := by have := HZL.out; rw [← hm, ← this]; simp
          have hNb2 : m + 1 ≤ 50000000 := by omega
          obtain ⟨g3, c4, e, hgB, hcn, hcm4, hAt⟩ := HM.out.o.at (by simp)
          injection e with e1 e2 e3
          subst e1 e3
          obtain ⟨⟨l0, l1, l2, l3, l4⟩, -⟩ := (show OAt g3 (m * 5) l w3 ∧ ∀ o, w3.frozen? ⟨g3, o, none⟩ = false from by
            have := hAt w3 (Below.refl _ _) zs.length (by simp)
            have e : (zs ++ [l])[zs.length]'(by simp) = l := by simp
            rw [e, hm] at this
            exact this)
          have i1 : (m : Int) < (m : Int) + 1 := by omega
          have i2 : (0 : Int) ≤ (m : Int) := by omega
          have i3 : m < m + 1 := by omega
          have hcm5 : m ≤ c3 := by rw [HZL.out] at hcn; omega
          clear hAt e2 l1 l2 l3
          by_cases hk1 : l.k = 1 ∧ l.pt.length = 0
          · have q1 : (l.k == 1) = true := by simpa using hk1.1
            have q2 : ((l.pt.length : Int) == 0) = true := by rw [hk1.2]; rfl
            have HC := Lib.hid (rocopy_any _ _ _ (HM.out.o.cut hm) (by omega) (fun z hz => HSM.out z (by simp [hz])))
            have HF := Lib.hid (fin_yes HRV.out hk1.1 hk1.2)
            clear hk1
            go_wp2_with (go_at_call 11; (with_reducible refine HC.out.mono ?_); rintro e w5 ⟨v5, y5, rfl, he, ho, hb⟩; have HR := Lib.hid (And.intro (he.trans HF.out) (And.intro (ho.mono (F' := fun g => w.heap.size ≤ g) fun g hg => Nat.le_trans HB3.out.size hg) (below_add HB3.out hb HB3.out.size))); clear he ho hb)
            go_ret
            exact ⟨_, y5, rfl, HR.out⟩
          · have HC := Lib.hid (rocopy_any _ _ _ HM.out.o.orow (by rw [HZL.out]; omega) HSM.out)
            have HF := Lib.hid (fin_no HRV.out (fun zs2 l2 e => by have e2 := List.append_inj_right' e rfl; simp only [List.cons.injEq, and_true] at e2; rw [← e2]; exact hk1))
            by_cases hk2 : l.k = 1
            · have q1 : (l.k == 1) = true := by simpa using hk2
              have q2 : ((l.pt.length : Int) == 0) = false := by simp; intro h; exact hk1 ⟨hk2, by rw [h]; rfl⟩
              clear hk1 hk2
              go_wp2_with (go_at_call 11; (with_reducible refine HC.out.mono ?_); rintro e w5 ⟨v5, y5, rfl, he, ho, hb⟩; have HR := Lib.hid (And.intro (he.trans HF.out) (And.intro (ho.mono (F' := fun g => w.heap.size ≤ g) fun g hg => Nat.le_trans HB3.out.size hg) (below_add HB3.out hb HB3.out.size))); clear he ho hb)
              go_ret
              exact ⟨_, y5, rfl, HR.out⟩
            · have q1 : (l.k == 1) = false := by simpa using hk2
              clear hk1 hk2
              go_wp2_with (go_at_call 11; (with_reducible refine HC.out.mono ?_); rintro e w5 ⟨v5, y5, rfl, he, ho, hb⟩; have HR := Lib.hid (And.intro (he.trans HF.out) (And.intro (ho.mono (F' := fun g => w.heap.size ≤ g) fun g hg => Nat.le_trans HB3.out.size hg) (below_add HB3.out hb HB3.out.size))); clear he ho hb)
              go_ret
              exact ⟨_, y5, rfl, HR.out⟩
      · rw [sliced_no hcf] at HGB
        clear hk hlt
        go_upto_region 8 with (first
          | (go_at_call 61; go_loud (refine HGB.out.mono ?_; rintro e wg ⟨vg, gy, rfl, hgy, hgo, hgb⟩; obtain ⟨ga, gc, rfl, -, -⟩ := own_shape hgo.own; have HGY := Lib.hid hgy; have HGL := Lib.hid (HGLN.out _ hgy); have hgl := HGL.out; have HG2 := Lib.hid (HP.out.o.below hgb); have HGR := Lib.hid hgo.orow.row; have HGE := Lib.hid hgo.el; have HOW := Lib.hid (show wg.ownsRow w.heap.size 56 5 (.slice a n c) n (fl ozC ys) from by have := HG2.out.own; rwa [HYL.out] at this); have HSZ := Lib.hid HG2.out.bel.size; clear hgy hgo hgb))
          | (at_builtin; go_loud (refine wpList_append_row (C := ozC) rfl (.tmp 26) (.tmp 31) 23 rfl w.heap.size 56 i0 _ 88 Tryz.underlying23 hi hz0 hz1 hz2 rfl (.slice a n c) n (fl ozC ys) rfl HOW.out _ gy rfl HGR.out (by unfold maxLen; omega) (by omega) HSZ.out ?_; intro v3 w3 hown3 hgrow3; have HO3 := Lib.hid (HG2.out.push hgrow3 HYL.out hown3 HGE.out); obtain ⟨a3, c3, rfl, -, -⟩ := own_shape hown3; have HM := Lib.hid (HP.out.gap HGY.out HO3.out); generalize hN : n + gy.length = N at *; clear hown3 hgrow3)))
        have HRV := Lib.hid (HM.out.all HT.out)
        have HSM := Lib.hid (HM.out.sm HT.out HI.out.rs)
        have HZL := Lib.hid (show (ys ++ gy).length = N by rw [List.length_append, HYL.out]; exact hN)
        have hNb : N ≤ xs.length := by rw [← hN]; omega
        have HB3 := Lib.hid HM.out.o.bel
        have hN2 := hN
        clear hN hgl HP HAT HYL HGY HGL HGR HGE HG2 HOW HO3 HGB
        generalize ys ++ gy = Z at *
        rcases nil_or_snoc Z with rfl | ⟨zs, l, rfl⟩
        · obtain rfl : N = 0 := by have := HZL.out; simpa using this.symm
          have HC := Lib.hid (rocopy_any _ _ _ HM.out.o.orow (by simp) (fun z hz => by simp at hz))
          have HF := Lib.hid (fin_no HRV.out (fun zs l e => by simp at e))
          go_wp2_with (go_at_call 11; (with_reducible refine HC.out.mono ?_); rintro e w5 ⟨v5, y5, rfl, he, ho, hb⟩; have HR := Lib.hid (And.intro (he.trans HF.out) (And.intro (ho.mono (F' := fun g => w.heap.size ≤ g) fun g hg => Nat.le_trans HB3.out.size hg) (below_add HB3.out hb HB3.out.size))); clear he ho hb)
          go_ret
          exact ⟨_, y5, rfl, HR.out⟩
        · obtain ⟨m, hm⟩ : ∃ m, zs.length = m := ⟨_, rfl⟩
          obtain rfl : N = m + 1 := by have := HZL.out; rw [← hm, ← this]; simp
          have hNb2 : m + 1 ≤ 50000000 := by omega
          obtain ⟨g3, c4, e, hgB, hcn, hcm4, hAt⟩ := HM.out.o.at (by simp)
          injection e with e1 e2 e3
          subst e1 e3
          obtain ⟨⟨l0, l1, l2, l3, l4⟩, -⟩ := (show OAt g3 (m * 5) l w3 ∧ ∀ o, w3.frozen? ⟨g3, o, none⟩ = false from by
            have := hAt w3 (Below.refl _ _) zs.length (by simp)
            have e : (zs ++ [l])[zs.length]'(by simp) = l := by simp
            rw [e, hm] at this
            exact this)
          have i1 : (m : Int) < (m : Int) + 1 := by omega
          have i2 : (0 : Int) ≤ (m : Int) := by omega
          have i3 : m < m + 1 := by omega
          have hcm5 : m ≤ c3 := by rw [HZL.out] at hcn; omega
          clear hAt e2 l1 l2 l3
          by_cases hk1 : l.k = 1 ∧ l.pt.length = 0
          · have q1 : (l.k == 1) = true := by simpa using hk1.1
            have q2 : ((l.pt.length : Int) == 0) = true := by rw [hk1.2]; rfl
            have HC := Lib.hid (rocopy_any _ _ _ (HM.out.o.cut hm) (by omega) (fun z hz => HSM.out z (by simp [hz])))
            have HF := Lib.hid (fin_yes HRV.out hk1.1 hk1.2)
            clear hk1
            go_wp2_with (go_at_call 11; (with_reducible refine HC.out.mono ?_); rintro e w5 ⟨v5, y5, rfl, he, ho, hb⟩; have HR := Lib.hid (And.intro (he.trans HF.out) (And.intro (ho.mono (F' := fun g => w.heap.size ≤ g) fun g hg => Nat.le_trans HB3.out.size hg) (below_add HB3.out hb HB3.out.size))); clear he ho hb)
            go_ret
            exact ⟨_, y5, rfl, HR.out⟩
          · have HC := Lib.hid (rocopy_any _ _ _ HM.out.o.orow (by rw [HZL.out]; omega) HSM.out)
            have HF := Lib.hid (fin_no HRV.out (fun zs2 l2 e => by have e2 := List.append_inj_right' e rfl; simp only [List.cons.injEq, and_true] at e2; rw [← e2]; exact hk1))
            by_cases hk2 : l.k = 1
            · have q1 : (l.k == 1) = true := by simpa using hk2
              have q2 : ((l.pt.length : Int) == 0) = false := by simp; intro h; exact hk1 ⟨hk2, by rw [h]; rfl⟩
              clear hk1 hk2
              go_wp2_with (go_at_call 11; (with_reducible refine HC.out.mono ?_); rintro e w5 ⟨v5, y5, rfl, he, ho, hb⟩; have HR := Lib.hid (And.intro (he.trans HF.out) (And.intro (ho.mono (F' := fun g => w.heap.size ≤ g) fun g hg => Nat.le_trans HB3.out.size hg) (below_add HB3.out hb HB3.out.size))); clear he ho hb)
              go_ret
              exact ⟨_, y5, rfl, HR.out⟩
            · have q1 : (l.k == 1) = false := by simpa using hk2
              clear hk1 hk2
              go_wp2_with (go_at_call 11; (with_reducible refine HC.out.mono ?_); rintro e w5 ⟨v5, y5, rfl, he, ho, hb⟩; have HR := Lib.hid (And.intro (he.trans HF.out) (And.intro (ho.mono (F' := fun g => w.heap.size ≤ g) fun g hg => Nat.le_trans HB3.out.size hg) (below_add HB3.out hb HB3.out.size))); clear he ho hb)
              go_ret
              exact ⟨_, y5, rfl, HR.out⟩

end Go.Proofs.YtohgopibimgjfaaGreat

/- N33: the reference's Is; what a law writes over -/
namespace Go.Proofs.YtohgopibimgjfaaGreat
open Go.RowKit
set_option linter.unusedVariables false
set_option maxRecDepth 100000

theorem ris_any (u : Value) (xs : List Oz) (w : World) (hx : Orow w u xs) (hi : LIn xs) (ht : Tame xs) :
    Calls Tryz.prog 35 #[u] w fun e w' => e = .returned (.bool (decide (formO (xs.map Oz.o) = xs.map Oz.o))) ∧ Below w.heap.size w w' := by
  have HO := Lib.hid (rof_any u xs w hx hi ht)
  have HX := Lib.hid (fun W (hb : Below w.heap.size w W) => hx.below hb)
  clear hx hi ht
  go_enter Tryz.func35, Tryz.ntmps35
  go_wp2_with fail
  refine HO.out.mono ?_
  rintro e w1 ⟨v, ys, rfl, he, ho, hb⟩
  have hs := rosame_any v u ys xs w1 ho.orow (HX.out w1 hb)
  rw [he] at hs
  have HS := Lib.hid hs
  have HB := Lib.hid hb
  clear he ho hb hs
  go_wp2_with (go_at_call 14; (with_reducible refine HS.out.mono ?_); rintro e w2 ⟨rfl, hb⟩; have HB2 := Lib.hid (below_add HB.out hb HB.out.size); clear hb)
  go_ret
  exact ⟨rfl, HB2.out⟩

/-! ### a law's data, told by what its ops are -/
theorem copy_h {u : Value} {xs : List Oz} {w : World} (hx : Orow w u xs) (hi : In xs) :
    Calls Tryz.prog 11 #[u] w fun e w' => ∃ a n c ys, e = .returned (.slice a n c) ∧ ys.length = n ∧ ys.map Oz.o = xs.map Oz.o ∧ Oown (fun g => w.heap.size ≤ g) w' (.slice a n c) ys ∧ Below w.heap.size w w' := by
  refine (rocopy_any u xs w hx hi.len hi.sm).mono fun e w' ⟨v, ys, he, hy, ho, hb⟩ => ?_
  obtain ⟨a, c, rfl, -, -⟩ := ho.shape
  exact ⟨a, _, c, ys, he, rfl, hy, ho, hb⟩

/-! ### what is written over -/
/-- Some number of this kind lies there, and may be written over. -/
def NumAt (K : IntKind) (W : World) (p : Addr) : Prop := (∃ v, W.cell? p = some (.int K v)) ∧ W.frozen? p = false
theorem num_set {K K2 : IntKind} {W : World} {p q : Addr} {u : Int} (hp : NumAt K W p) (hq : NumAt K2 W q) : NumAt K2 (W.setCell p (.int K u)) q := by
  obtain ⟨⟨v, hv⟩, -⟩ := hp
  obtain ⟨⟨v2, hv2⟩, hf⟩ := hq
  refine ⟨?_, by rw [World.frozen?_setCell]; exact hf⟩
  by_cases e : p = q
  · subst e
    rw [hv] at hv2
    injection hv2 with hv2
    injection hv2 with hk _
    subst hk
    exact ⟨u, World.cell?_setCell_same _ _ _ hv⟩
  · exact ⟨v2, (World.cell?_setCell_other _ _ _ _ e).trans hv2⟩
theorem own_cells {W : World} {B m n c : Nat} {e : TypeId} {a : Option Addr} {xs : List Value} (h : W.ownsRow B e m (.slice a n c) n xs) (h0 : 0 < n) : ∃ g, a = some ⟨g, 0, none⟩ ∧ n ≤ c ∧ ∀ o, W.frozen? ⟨g, o, none⟩ = false := by
  rcases h.2 with ⟨hv, hn⟩ | ⟨g, cap, cur, hv, hB, hh, hc, -⟩
  · omega
  · injection hv with e1 e2 e3
    subst e1 e3
    exact ⟨g, rfl, hc, fun o => by simp [World.frozen?, hh]⟩
end Go.Proofs.YtohgopibimgjfaaGreat
