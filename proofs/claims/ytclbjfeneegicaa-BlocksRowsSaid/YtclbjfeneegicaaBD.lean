
import Derived.Test.YtclbjfeneegicaaBC
/- BD: the reference's Cut -/
namespace Go.Proofs.Ytclbjfeneegicaa
open Go.RowKit
set_option linter.unusedVariables false
set_option maxRecDepth 100000

theorem cut_next {zs : List Bz} {k : Nat} (h : k < zs.length) (h0 : 0 ≤ zs[k].n) (i j D : Int) (hi : 0 ≤ i) (hD : D = min (lenB ((zs.take k).map Bz.b) + zs[k].n) j - max (lenB ((zs.take k).map Bz.b)) i) :
    ((ex ((zs.take (k + 1)).map Bz.b)).take j.toNat).drop i.toNat = ((ex ((zs.take k).map Bz.b)).take j.toNat).drop i.toNat ++ List.replicate D.toNat zs[k].s := by
  rw [ex_take h, List.take_append, List.drop_append, List.take_replicate, List.drop_replicate, List.length_take]
  congr 2
  unfold lenB at hD
  omega
theorem cut_none {α : Type} (l : List α) {i j : Int} (h : j ≤ i) : (l.take j.toNat).drop i.toNat = [] := by
  apply List.drop_eq_nil_of_le
  rw [List.length_take]
  omega
set_option maxHeartbeats 4000000 in
theorem rcut_pos (v : Value) (zs : List Bz) (i : Int) (hip : 0 ≤ i) (hi : i ≤ 9223372036854775807) (j : Int) (w : World) (hv : Zrow w v zs) (hl : zs.length ≤ 1000) (hn : ∀ z ∈ zs, 0 ≤ z.n ∧ z.n ≤ 1125899906842624) (hs : ∀ z ∈ zs, z.s.length ≤ 1000) (hj0 : -9223372036854775808 ≤ j) (hj : j ≤ 9223372036854775807) :
    Calls Try.prog 17 #[v, .int .i64 i, .int .i64 j] w fun e w' => ∃ a c zs', e = .returned (.slice a zs'.length c) ∧ OfK w (((ex (zs.map Bz.b)).take j.toNat).drop (i : Int).toNat) zs.length (.slice a zs'.length c) zs' w' := by
  obtain ⟨va, vc, rfl⟩ := hv.shape
  have HV := Lib.hid hv
  have HS := Lib.hid hs
  have HN := Lib.hid hn
  have HL := Lib.hid hl
  have g0 : decide (i < 0) = false := decide_eq_false (by omega)
  clear hv hs hn
  go_enter Try.func17, Try.ntmps17
  go_wp2
  go_loopw [7, 8, 9] (fun s7 s8 s9 wr => ∃ (k : Nat) (a : Option Addr) (c : Nat) (zs' : List Bz), k ≤ zs.length ∧ s9 = .int .i64 k ∧ s8 = .int .i64 (lenB ((zs.take k).map Bz.b)) ∧ s7 = .slice a zs'.length c ∧ Hid (OfK w (((ex ((zs.take k).map Bz.b)).take j.toNat).drop (i : Int).toNat) k (.slice a zs'.length c) zs' wr)) (fun s7 s8 s9 _ => zs.length - (intOf s9).toNat)
  case atStart => exact ⟨0, none, 0, [], Nat.zero_le _, rfl, rfl, rfl, Lib.hid (by have := OfK.start w; simpa [ex] using this)⟩
  case round =>
    obtain ⟨k, ua, uc, zs', hk, rfl, rfl, rfl, HK⟩ := hrel
    rename_i wr
    have HJ := Lib.hid (And.intro hj0 hj)
    by_cases hlt : k < zs.length ∧ i < j
    · obtain ⟨hlt, hij⟩ := hlt
      obtain ⟨b, off, rfl, -, -, -, hbl, hat⟩ := HV.out.opn (by omega)
      obtain ⟨c0, c1, hs⟩ := hat k hlt
      have h4 := cell_below HK.out.bel c0
      have h5 := cell_below HK.out.bel c1
      have HRR := Lib.hid (show Arow wr (.slice zs[k].a zs[k].s.length zs[k].c) zs[k].s from hs.below HK.out.bel (Nat.le_refl _))
      have HSL := Lib.hid (HS.out _ (List.getElem_mem hlt))
      have HNL := Lib.hid (HN.out _ (List.getElem_mem hlt))
      have HLT := Lib.hid (show (((ex ((zs.take k).map Bz.b)).take j.toNat).drop (i : Int).toNat).length ≤ 1125899906842624000 from by have := len_take (fun z hz => (HN.out z hz).2) HL.out k; rw [List.length_drop, List.length_take]; omega)
      have HLQ := Lib.hid (show 0 ≤ lenB ((zs.take k).map Bz.b) ∧ lenB ((zs.take k).map Bz.b) ≤ 1125899906842624000 from by have := len_take (fun z hz => (HN.out z hz).2) HL.out k; unfold lenB; omega)
      have HT := Lib.hid (fun D (hD : D = min (lenB ((zs.take k).map Bz.b) + zs[k].n) j - max (lenB ((zs.take k).map Bz.b)) i) => cut_next hlt HNL.out.1 (i) j D (by omega) hD)
      have HL1 := Lib.hid (lenB_take hlt HNL.out.1)
      have g1 : decide ((k : Int) < (zs.length : Int)) = true := by rw [decide_eq_true_iff]; omega
      have g2 : decide (i < j) = true := decide_eq_true hij
      obtain ⟨L, hL⟩ : ∃ L, lenB ((zs.take k).map Bz.b) = L := ⟨_, rfl⟩
      rw [hL] at HT HLQ HL1 ⊢
      obtain ⟨z, hz⟩ : ∃ z, zs[k] = z := ⟨_, rfl⟩
      rw [hz] at h4 h5 hs HRR HSL HNL HT HL1
      clear hat hz hs c0 c1 hL
      have e1 : IntKind.i64.wrap (L + z.n) = L + z.n := by have := HLQ.out; have := HNL.out; rw [IntKind.wrap_i64]; omega
      have e2 : L + z.n ≤ 9223372036854775807 := by have := HLQ.out; have := HNL.out; omega
      have e3 : -9223372036854775808 ≤ L + z.n := by have := HLQ.out; have := HNL.out; omega
      have HB := Lib.hid (show 0 ≤ L ∧ L ≤ 1125899906842624000 ∧ 0 ≤ z.n ∧ z.n ≤ 1125899906842624 ∧ i < j ∧ j ≤ 9223372036854775807 from ⟨HLQ.out.1, HLQ.out.2, HNL.out.1, HNL.out.2, hij, hj⟩)
      go_wp2
      go_quiet (fail)
      have HK1 := Lib.hid (HK.out.below (blw_drewN (Below.refl wr.heap.size wr) nq))
      have HR := Lib.hid (HRR.out.below (blw_drewN (Below.refl wr.heap.size wr) nq) (Nat.le_refl _))
      have h6 := cell_below (blw_drewN (Below.refl wr.heap.size wr) nq) h5
      clear h4 h5
      by_cases h1 : L < i
      · have g3 : decide (L < i) = true := decide_eq_true h1
        by_cases h2 : j < L + z.n
        · have g4 : decide (j < L + z.n) = true := decide_eq_true h2
          have e5 : IntKind.i64.wrap (j - i) = j - i := by have := HB.out; rw [IntKind.wrap_i64]; omega
          have HP := Lib.hid (radd_any w.heap.size zs' (.slice ua zs'.length uc) (j - i) z.a z.c z.s (wr.drewN nq) HK1.out.own HK1.out.z0 HR.out HK1.out.bel.size HSL.out (by have := HK1.out.ln; omega) HK1.out.rep (by have := HLT.out; have := HB.out; omega))
          have HT2 := Lib.hid (HT.out (j - i) (by omega))
          clear HT
          go_wp2_with (go_at_call 29; (with_reducible refine HP.out.mono ?_); rintro e w1 ⟨ra, rc, zs2, rfl, q1, q2, q3, q4, q5⟩; have HQ := Lib.hid (HK1.out.next q1 q2 q3 q4 q5); clear q1 q2 q3 q4 q5)
          go_roundw
          case rel => exact ⟨k + 1, ra, rc, zs2, by omega, by go_num, by rw [HL1.out], rfl, Lib.hid (by rw [HT2.out]; exact HQ.out)⟩
          case measure => simp [intOf]; omega
        · have g4 : decide (j < L + z.n) = false := decide_eq_false h2
          have e5 : IntKind.i64.wrap (L + z.n - i) = L + z.n - i := by have := HB.out; rw [IntKind.wrap_i64]; omega
          have HP := Lib.hid (radd_any w.heap.size zs' (.slice ua zs'.length uc) (L + z.n - i) z.a z.c z.s (wr.drewN nq) HK1.out.own HK1.out.z0 HR.out HK1.out.bel.size HSL.out (by have := HK1.out.ln; omega) HK1.out.rep (by have := HLT.out; have := HB.out; omega))
          have HT2 := Lib.hid (HT.out (L + z.n - i) (by omega))
          clear HT
          go_wp2_with (go_at_call 29; (with_reducible refine HP.out.mono ?_); rintro e w1 ⟨ra, rc, zs2, rfl, q1, q2, q3, q4, q5⟩; have HQ := Lib.hid (HK1.out.next q1 q2 q3 q4 q5); clear q1 q2 q3 q4 q5)
          go_roundw
          case rel => exact ⟨k + 1, ra, rc, zs2, by omega, by go_num, by rw [HL1.out], rfl, Lib.hid (by rw [HT2.out]; exact HQ.out)⟩
          case measure => simp [intOf]; omega
      · have g3 : decide (L < i) = false := decide_eq_false h1
        by_cases h2 : j < L + z.n
        · have g4 : decide (j < L + z.n) = true := decide_eq_true h2
          have e5 : IntKind.i64.wrap (j - L) = j - L := by have := HB.out; rw [IntKind.wrap_i64]; omega
          have HP := Lib.hid (radd_any w.heap.size zs' (.slice ua zs'.length uc) (j - L) z.a z.c z.s (wr.drewN nq) HK1.out.own HK1.out.z0 HR.out HK1.out.bel.size HSL.out (by have := HK1.out.ln; omega) HK1.out.rep (by have := HLT.out; have := HB.out; omega))
          have HT2 := Lib.hid (HT.out (j - L) (by omega))
          clear HT
          go_wp2_with (go_at_call 29; (with_reducible refine HP.out.mono ?_); rintro e w1 ⟨ra, rc, zs2, rfl, q1, q2, q3, q4, q5⟩; have HQ := Lib.hid (HK1.out.next q1 q2 q3 q4 q5); clear q1 q2 q3 q4 q5)
          go_roundw
          case rel => exact ⟨k + 1, ra, rc, zs2, by omega, by go_num, by rw [HL1.out], rfl, Lib.hid (by rw [HT2.out]; exact HQ.out)⟩
          case measure => simp [intOf]; omega
        · have g4 : decide (j < L + z.n) = false := decide_eq_false h2
          have e5 : IntKind.i64.wrap (L + z.n - L) = L + z.n - L := by have := HB.out; rw [IntKind.wrap_i64]; omega
          have HP := Lib.hid (radd_any w.heap.size zs' (.slice ua zs'.length uc) (L + z.n - L) z.a z.c z.s (wr.drewN nq) HK1.out.own HK1.out.z0 HR.out HK1.out.bel.size HSL.out (by have := HK1.out.ln; omega) HK1.out.rep (by have := HLT.out; have := HB.out; omega))
          have HT2 := Lib.hid (HT.out (L + z.n - L) (by omega))
          clear HT
          go_wp2_with (go_at_call 29; (with_reducible refine HP.out.mono ?_); rintro e w1 ⟨ra, rc, zs2, rfl, q1, q2, q3, q4, q5⟩; have HQ := Lib.hid (HK1.out.next q1 q2 q3 q4 q5); clear q1 q2 q3 q4 q5)
          go_roundw
          case rel => exact ⟨k + 1, ra, rc, zs2, by omega, by go_num, by rw [HL1.out], rfl, Lib.hid (by rw [HT2.out]; exact HQ.out)⟩
          case measure => simp [intOf]; omega
    · have HE := Lib.hid (show OfK w (((ex (zs.map Bz.b)).take j.toNat).drop (i : Int).toNat) zs.length (.slice ua zs'.length uc) zs' wr from by
        have h := HK.out
        by_cases hk2 : k < zs.length
        · have hij : j ≤ i := by omega
          rw [cut_none _ hij] at h ⊢
          exact ⟨h.rep, Nat.le_trans h.ln hk, h.z0, h.own, h.bel⟩
        · obtain rfl : k = zs.length := by omega
          rwa [List.take_of_length_le (Nat.le_refl _)] at h)
      have g5 : k < zs.length → decide (i < j) = false := fun h => decide_eq_false (fun h2 => hlt ⟨h, h2⟩)
      clear HK
      by_cases hk2 : k < zs.length
      · have g1 : decide ((k : Int) < (zs.length : Int)) = true := by rw [decide_eq_true_iff]; omega
        have g6 := g5 hk2
        clear g5
        go_wp2
        go_ret
        exact ⟨ua, uc, zs', rfl, HE.out⟩
      · obtain rfl : k = zs.length := by omega
        have g1 : decide ((zs.length : Int) < (zs.length : Int)) = false := by rw [decide_eq_false_iff_not]; omega
        clear g5
        go_wp2
        go_ret
        exact ⟨ua, uc, zs', rfl, HE.out⟩
set_option maxHeartbeats 4000000 in
theorem rcut_neg (v : Value) (zs : List Bz) (i0 : Int) (hineg : i0 < 0) (j : Int) (w : World) (hv : Zrow w v zs) (hl : zs.length ≤ 1000) (hn : ∀ z ∈ zs, 0 ≤ z.n ∧ z.n ≤ 1125899906842624) (hs : ∀ z ∈ zs, z.s.length ≤ 1000) (hj0 : -9223372036854775808 ≤ j) (hj : j ≤ 9223372036854775807) :
    Calls Try.prog 17 #[v, .int .i64 i0, .int .i64 j] w fun e w' => ∃ a c zs', e = .returned (.slice a zs'.length c) ∧ OfK w (((ex (zs.map Bz.b)).take j.toNat).drop (0 : Int).toNat) zs.length (.slice a zs'.length c) zs' w' := by
  obtain ⟨va, vc, rfl⟩ := hv.shape
  have HV := Lib.hid hv
  have HS := Lib.hid hs
  have HN := Lib.hid hn
  have HL := Lib.hid hl
  have g0 : decide (i0 < 0) = true := decide_eq_true hineg
  clear hv hs hn
  go_enter Try.func17, Try.ntmps17
  go_wp2
  go_loopw [7, 8, 9] (fun s7 s8 s9 wr => ∃ (k : Nat) (a : Option Addr) (c : Nat) (zs' : List Bz), k ≤ zs.length ∧ s9 = .int .i64 k ∧ s8 = .int .i64 (lenB ((zs.take k).map Bz.b)) ∧ s7 = .slice a zs'.length c ∧ Hid (OfK w (((ex ((zs.take k).map Bz.b)).take j.toNat).drop (0 : Int).toNat) k (.slice a zs'.length c) zs' wr)) (fun s7 s8 s9 _ => zs.length - (intOf s9).toNat)
  case atStart => exact ⟨0, none, 0, [], Nat.zero_le _, rfl, rfl, rfl, Lib.hid (by have := OfK.start w; simpa [ex] using this)⟩
  case round =>
    obtain ⟨k, ua, uc, zs', hk, rfl, rfl, rfl, HK⟩ := hrel
    rename_i wr
    have HJ := Lib.hid (And.intro hj0 hj)
    by_cases hlt : k < zs.length ∧ 0 < j
    · obtain ⟨hlt, hij⟩ := hlt
      obtain ⟨b, off, rfl, -, -, -, hbl, hat⟩ := HV.out.opn (by omega)
      obtain ⟨c0, c1, hs⟩ := hat k hlt
      have h4 := cell_below HK.out.bel c0
      have h5 := cell_below HK.out.bel c1
      have HRR := Lib.hid (show Arow wr (.slice zs[k].a zs[k].s.length zs[k].c) zs[k].s from hs.below HK.out.bel (Nat.le_refl _))
      have HSL := Lib.hid (HS.out _ (List.getElem_mem hlt))
      have HNL := Lib.hid (HN.out _ (List.getElem_mem hlt))
      have HLT := Lib.hid (show (((ex ((zs.take k).map Bz.b)).take j.toNat).drop (0 : Int).toNat).length ≤ 1125899906842624000 from by have := len_take (fun z hz => (HN.out z hz).2) HL.out k; rw [List.length_drop, List.length_take]; omega)
      have HLQ := Lib.hid (show 0 ≤ lenB ((zs.take k).map Bz.b) ∧ lenB ((zs.take k).map Bz.b) ≤ 1125899906842624000 from by have := len_take (fun z hz => (HN.out z hz).2) HL.out k; unfold lenB; omega)
      have HT := Lib.hid (fun D (hD : D = min (lenB ((zs.take k).map Bz.b) + zs[k].n) j - max (lenB ((zs.take k).map Bz.b)) 0) => cut_next hlt HNL.out.1 (0) j D (by omega) hD)
      have HL1 := Lib.hid (lenB_take hlt HNL.out.1)
      have g1 : decide ((k : Int) < (zs.length : Int)) = true := by rw [decide_eq_true_iff]; omega
      have g2 : decide (0 < j) = true := decide_eq_true hij
      obtain ⟨L, hL⟩ : ∃ L, lenB ((zs.take k).map Bz.b) = L := ⟨_, rfl⟩
      rw [hL] at HT HLQ HL1 ⊢
      obtain ⟨z, hz⟩ : ∃ z, zs[k] = z := ⟨_, rfl⟩
      rw [hz] at h4 h5 hs HRR HSL HNL HT HL1
      clear hat hz hs c0 c1 hL
      have e1 : IntKind.i64.wrap (L + z.n) = L + z.n := by have := HLQ.out; have := HNL.out; rw [IntKind.wrap_i64]; omega
      have e2 : L + z.n ≤ 9223372036854775807 := by have := HLQ.out; have := HNL.out; omega
      have e3 : -9223372036854775808 ≤ L + z.n := by have := HLQ.out; have := HNL.out; omega
      have HB := Lib.hid (show 0 ≤ L ∧ L ≤ 1125899906842624000 ∧ 0 ≤ z.n ∧ z.n ≤ 1125899906842624 ∧ 0 < j ∧ j ≤ 9223372036854775807 from ⟨HLQ.out.1, HLQ.out.2, HNL.out.1, HNL.out.2, hij, hj⟩)
      go_wp2
      go_quiet (fail)
      have HK1 := Lib.hid (HK.out.below (blw_drewN (Below.refl wr.heap.size wr) nq))
      have HR := Lib.hid (HRR.out.below (blw_drewN (Below.refl wr.heap.size wr) nq) (Nat.le_refl _))
      have h6 := cell_below (blw_drewN (Below.refl wr.heap.size wr) nq) h5
      clear h4 h5
      have h1 : ¬ L < 0 := by have := HB.out; omega
      have g3 : decide (L < 0) = false := decide_eq_false h1
      by_cases h2 : j < L + z.n
      · have g4 : decide (j < L + z.n) = true := decide_eq_true h2
        have e5 : IntKind.i64.wrap (j - L) = j - L := by have := HB.out; rw [IntKind.wrap_i64]; omega
        have HP := Lib.hid (radd_any w.heap.size zs' (.slice ua zs'.length uc) (j - L) z.a z.c z.s (wr.drewN nq) HK1.out.own HK1.out.z0 HR.out HK1.out.bel.size HSL.out (by have := HK1.out.ln; omega) HK1.out.rep (by have := HLT.out; have := HB.out; omega))
        have HT2 := Lib.hid (HT.out (j - L) (by omega))
        clear HT
        go_wp2_with (go_at_call 29; (with_reducible refine HP.out.mono ?_); rintro e w1 ⟨ra, rc, zs2, rfl, q1, q2, q3, q4, q5⟩; have HQ := Lib.hid (HK1.out.next q1 q2 q3 q4 q5); clear q1 q2 q3 q4 q5)
        go_roundw
        case rel => exact ⟨k + 1, ra, rc, zs2, by omega, by go_num, by rw [HL1.out], rfl, Lib.hid (by rw [HT2.out]; exact HQ.out)⟩
        case measure => simp [intOf]; omega
      · have g4 : decide (j < L + z.n) = false := decide_eq_false h2
        have e5 : IntKind.i64.wrap (L + z.n - L) = L + z.n - L := by have := HB.out; rw [IntKind.wrap_i64]; omega
        have HP := Lib.hid (radd_any w.heap.size zs' (.slice ua zs'.length uc) (L + z.n - L) z.a z.c z.s (wr.drewN nq) HK1.out.own HK1.out.z0 HR.out HK1.out.bel.size HSL.out (by have := HK1.out.ln; omega) HK1.out.rep (by have := HLT.out; have := HB.out; omega))
        have HT2 := Lib.hid (HT.out (L + z.n - L) (by omega))
        clear HT
        go_wp2_with (go_at_call 29; (with_reducible refine HP.out.mono ?_); rintro e w1 ⟨ra, rc, zs2, rfl, q1, q2, q3, q4, q5⟩; have HQ := Lib.hid (HK1.out.next q1 q2 q3 q4 q5); clear q1 q2 q3 q4 q5)
        go_roundw
        case rel => exact ⟨k + 1, ra, rc, zs2, by omega, by go_num, by rw [HL1.out], rfl, Lib.hid (by rw [HT2.out]; exact HQ.out)⟩
        case measure => simp [intOf]; omega
    · have HE := Lib.hid (show OfK w (((ex (zs.map Bz.b)).take j.toNat).drop (0 : Int).toNat) zs.length (.slice ua zs'.length uc) zs' wr from by
        have h := HK.out
        by_cases hk2 : k < zs.length
        · have hij : j ≤ 0 := by omega
          rw [cut_none _ hij] at h ⊢
          exact ⟨h.rep, Nat.le_trans h.ln hk, h.z0, h.own, h.bel⟩
        · obtain rfl : k = zs.length := by omega
          rwa [List.take_of_length_le (Nat.le_refl _)] at h)
      have g5 : k < zs.length → decide (0 < j) = false := fun h => decide_eq_false (fun h2 => hlt ⟨h, h2⟩)
      clear HK
      by_cases hk2 : k < zs.length
      · have g1 : decide ((k : Int) < (zs.length : Int)) = true := by rw [decide_eq_true_iff]; omega
        have g6 := g5 hk2
        clear g5
        go_wp2
        go_ret
        exact ⟨ua, uc, zs', rfl, HE.out⟩
      · obtain rfl : k = zs.length := by omega
        have g1 : decide ((zs.length : Int) < (zs.length : Int)) = false := by rw [decide_eq_false_iff_not]; omega
        clear g5
        go_wp2
        go_ret
        exact ⟨ua, uc, zs', rfl, HE.out⟩
theorem rcut_any (v : Value) (zs : List Bz) (i j : Int) (w : World) (hv : Zrow w v zs) (hl : zs.length ≤ 1000) (hn : ∀ z ∈ zs, 0 ≤ z.n ∧ z.n ≤ 1125899906842624) (hs : ∀ z ∈ zs, z.s.length ≤ 1000) (hi : i ≤ 9223372036854775807) (hj0 : -9223372036854775808 ≤ j) (hj : j ≤ 9223372036854775807) :
    Calls Try.prog 17 #[v, .int .i64 i, .int .i64 j] w fun e w' => ∃ a c zs', e = .returned (.slice a zs'.length c) ∧ OfK w (((ex (zs.map Bz.b)).take j.toNat).drop i.toNat) zs.length (.slice a zs'.length c) zs' w' := by
  by_cases h : i < 0
  · have := rcut_neg v zs i h j w hv hl hn hs hj0 hj
    rw [show i.toNat = (0 : Int).toNat by omega]
    exact this
  · exact rcut_pos v zs i (by omega) hi j w hv hl hn hs hj0 hj
end Go.Proofs.Ytclbjfeneegicaa
