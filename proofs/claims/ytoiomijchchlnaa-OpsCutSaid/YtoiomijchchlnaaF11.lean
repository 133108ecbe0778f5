
import Derived.Test.YtoiomijchchlnaaF10
/- F11: more than is looked at; known -/
namespace Go.Proofs.Ytoiomijchchlnaa
open Go.RowKit
set_option linter.unusedVariables false

set_option maxRecDepth 100000 in
theorem great_any (ka : Option Addr) (nk kc : Nat) (xa : Option Addr) (xc : Nat) (ls : List Opn) (hk : nk ≤ 9223372036854775807) (W : World) (hv : Orow W (.slice xa ls.length xc) ls) :
    Calls Try.prog 6 #[.slice ka nk kc, .slice (some ⟨W.heap.size, 0, none⟩) 1 1] (W.alloc (.cells #[.slice xa ls.length xc] 23)) fun e w' => (∃ b, e = .returned (.bool b)) ∧ Below W.heap.size W w' := by
  have HB0 := Lib.hid (kbelow_one W (.cells #[.slice xa ls.length xc] 23))
  have HS := Lib.hid (size_any _ ls _ (hv.below HB0.out))
  obtain ⟨n1, hn1⟩ : ∃ n, ls.length = n := ⟨_, rfl⟩
  rw [hn1] at HS HB0 ⊢
  clear hv hn1
  by_cases q0 : 64 < nk
  · have d0 : decide ((0 : Int) < (nk : Int) - 64) = true := by rw [decide_eq_true_iff]; omega
    have d1 : decide ((64 : Int) < (nk : Int)) = true := by rw [decide_eq_true_iff]; omega
    have d2 : decide (64 < nk) = true := by rw [decide_eq_true_iff]; omega
    clear q0
    go_enter Try.func6, Try.ntmps6
    go_wp2
    go_ret
    exact ⟨⟨_, rfl⟩, HB0.out⟩
  have d0 : decide ((0 : Int) < (nk : Int) - 64) = false := by rw [decide_eq_false_iff_not]; omega
  have d1 : decide ((64 : Int) < (nk : Int)) = false := by rw [decide_eq_false_iff_not]; omega
  have d2 : decide (64 < nk) = false := by rw [decide_eq_false_iff_not]; omega
  go_enter Try.func6, Try.ntmps6
  go_wp2
  refine wp_loop_rounds 2 ?_
  rw [rounds_succ]
  go_wp2_with (go_at_call 14; (with_reducible refine HS.out.mono ?_); rintro e w1 ⟨⟨m, rfl⟩, hb⟩; have HB1 := Lib.hid (below_add HB0.out hb HB0.out.size); clear hb)
  rw [rounds_succ]
  go_wp2
  go_ret
  exact ⟨⟨_, rfl⟩, HB1.out⟩

def kK : List Key := [⟨1, false, 1, false, false, 0⟩]
theorem kK_W : ∀ k ∈ kK, KeyW k := by
  intro k hk
  simp [kK] at hk
  subst hk
  exact ⟨by decide, by decide, by decide⟩
theorem kK_may : mayKs kK := by
  refine ⟨by decide, ?_, ?_⟩
  · intro k hk
    simp [kK] at hk
    subst hk
    decide
  · simp [Apart, kK]
theorem flat_kK : (flat kK).toArray = #[.int .i64 1, .bool false, .int .u8 1, .bool false, .bool false, .int .i64 0] := rfl
theorem new_kK (w : World) :
    Calls Try.prog 8 #[.slice (some ⟨w.heap.size, 0, none⟩) 1 1] (w.alloc (.cells (flat kK).toArray 44)) fun e w' => ∃ s, e = .returned (.tuple #[.pointer (some s), .int .i64 0]) ∧ Sch w' (.pointer (some s)) kK ∧ Below w.heap.size w w' :=
  (new_yes (krow_built w _ kK (by decide)) kK_W kK_may).mono fun e w' ⟨s, h1, h2, h3⟩ => ⟨s, h1, h2, below_add (kbelow_one w _) h3 (by simp)⟩
def oA : Opn := ⟨2, 0, [97], [], []⟩
def oN (n : Int) : Opn := ⟨1, n, [], [], []⟩
def oZ : Opn := ⟨0, 0, [], [], []⟩
theorem m_two : mayX kK [oN 2, oA] = 0 := by decide
theorem m_three : mayX kK [oN 3, oA] = 0 := by decide
theorem m_aa : mayX kK [oA, oA] = 0 := by decide
theorem m_zero : mayX kK [oZ] = 3 := by decide
theorem f_two : fitsX kK [oN 2, oA] 3 4 = 0 := by
  have hk : keeps 3 [oN 2, oA] := by
    intro j hj
    match j, hj with
    | 0, _ => simp [oN]
    | 1, _ => simp [oN, oA, tk]
  unfold fitsX
  rw [m_two, if_neg (by omega), if_neg (by decide), if_neg (by simpa using hk), if_neg (by decide), if_neg (by decide)]
theorem f_three : fitsX kK [oN 3, oA] 3 4 = 6 := by
  have hk : ¬ keeps 3 [oN 3, oA] := fun h => h 1 (by decide) ⟨by decide, by decide⟩
  unfold fitsX
  rw [m_three, if_neg (by omega), if_neg (by decide), if_pos hk]
theorem f_aa : fitsX kK [oA, oA] 3 4 = 8 := by
  have hk : keeps 3 [oA, oA] := by
    intro j hj
    match j, hj with
    | 0, _ => simp [oA, tk]
    | 1, _ => simp [oA, tk]
  unfold fitsX
  rw [m_aa, if_neg (by omega), if_neg (by decide), if_neg (by simpa using hk), if_neg (by decide), if_pos (by decide)]

def ovA (b : Nat) : OpV := ⟨2, 0, some ⟨b, 0, none⟩, 1, 1, none, 0, 0, none, 0, 0⟩
def ovN (n : Int) : OpV := ⟨1, n, none, 0, 0, none, 0, 0, none, 0, 0⟩
def ovZ : OpV := ⟨0, 0, none, 0, 0, none, 0, 0, none, 0, 0⟩
theorem rA {W : World} {b : Nat} (h : Ints .i32 W (.slice (some ⟨b, 0, none⟩) 1 1) [97]) : OpR W (ovA b) oA := ⟨rfl, rfl, h, Row.nil W, Row.nil W⟩
theorem rN (W : World) (n : Int) : OpR W (ovN n) (oN n) := ⟨rfl, rfl, ints_nil _ W, Row.nil W, Row.nil W⟩
theorem rZ (W : World) : OpR W ovZ oZ := ⟨rfl, rfl, ints_nil _ W, Row.nil W, Row.nil W⟩
theorem wfA : OpW oA := ⟨by decide, by decide, by simp [oA], by simp [oA]⟩
theorem wfN {n : Int} (h : (Lit.int .i64 n).wf = true) : OpW (oN n) := ⟨show (Lit.int .u8 1).wf = true by decide, h, by simp [oN], by simp [oN]⟩
theorem wfZ : OpW oZ := ⟨by decide, by decide, by simp [oZ], by simp [oZ]⟩
theorem orow_two (W : World) (t : TypeId) (o1 o2 : OpV) (p1 p2 : Opn) (h1 : OpR W o1 p1) (h2 : OpR W o2 p2) : Orow (W.alloc (.cells (fl opC [o1, o2]).toArray t)) (.slice (some ⟨W.heap.size, 0, none⟩) 2 2) [p1, p2] :=
  orow_built W t [o1, o2] [p1, p2] (by simp [maxLen]) rfl (fun j q1 q2 => by
    match j, q1 with
    | 0, _ => exact h1
    | 1, _ => exact h2) (kbelow_one W _)
theorem orow_one (W : World) (t : TypeId) (o1 : OpV) (p1 : Opn) (h1 : OpR W o1 p1) : Orow (W.alloc (.cells (fl opC [o1]).toArray t)) (.slice (some ⟨W.heap.size, 0, none⟩) 1 1) [p1] :=
  orow_built W t [o1] [p1] (by simp [maxLen]) rfl (fun j q1 q2 => by
    match j, q1 with
    | 0, _ => exact h1) (kbelow_one W _)
/-- The worlds of known behind its variables. -/
structure K15 (w : World) (s : Addr) (b : Nat) (W : World) : Prop where
  s : Sch W (.pointer (some s)) kK
  r : Ints .i32 W (.slice (some ⟨b, 0, none⟩) 1 1) [97]
  a : OBox (b + 1) 2 0 (some ⟨b, 0, none⟩) 1 1 none 0 0 none 0 0 W
  n2 : OBox (b + 1 + 1) 1 2 none 0 0 none 0 0 none 0 0 W
  n3 : OBox (b + 1 + 1 + 1) 1 3 none 0 0 none 0 0 none 0 0 W
  bel : Below w.heap.size w W
theorem K15.stay {w : World} {s : Addr} {b : Nat} {W W' : World} (h : K15 w s b W) (hb : Below W.heap.size W W') : K15 w s b W' :=
  ⟨h.s.below hb (Nat.le_refl _), h.r.below hb, h.a.stay hb, h.n2.stay hb, h.n3.stay hb, below_add h.bel hb h.bel.size⟩
theorem k15_new {w w1 : World} {s : Addr} (hs : Sch w1 (.pointer (some s)) kK) (hb : Below w.heap.size w w1) (t : TypeId) :
    K15 w s w1.heap.size ((((w1.alloc (.cells #[.int .i32 97] t)).alloc (.cells (opcs 2 0 (some ⟨w1.heap.size, 0, none⟩) 1 1 none 0 0 none 0 0) 41)).alloc (.cells (opcs 1 2 none 0 0 none 0 0 none 0 0) 41)).alloc (.cells (opcs 1 3 none 0 0 none 0 0 none 0 0) 41)) := by
  have b1 := kbelow_one w1 (.cells #[.int .i32 97] t)
  have hr := ints_single .i32 w1 t 97
  have hs1 := hs.below b1 (Nat.le_refl _)
  have hw1 := below_add hb b1 hb.size
  have hz1 : (w1.alloc (.cells #[.int .i32 97] t)).heap.size = w1.heap.size + 1 := by simp
  generalize w1.alloc (.cells #[.int .i32 97] t) = w2 at *
  have b2 := kbelow_one w2 (.cells (opcs 2 0 (some ⟨w1.heap.size, 0, none⟩) 1 1 none 0 0 none 0 0) 41)
  have ha := OBox.box 2 0 (some ⟨w1.heap.size, 0, none⟩) 1 1 none 0 0 none 0 0 w2 41
  have hz2 : (w2.alloc (.cells (opcs 2 0 (some ⟨w1.heap.size, 0, none⟩) 1 1 none 0 0 none 0 0) 41)).heap.size = w2.heap.size + 1 := by simp
  generalize w2.alloc (.cells (opcs 2 0 (some ⟨w1.heap.size, 0, none⟩) 1 1 none 0 0 none 0 0) 41) = w3 at *
  have b3 := kbelow_one w3 (.cells (opcs 1 2 none 0 0 none 0 0 none 0 0) 41)
  have h2 := OBox.box 1 2 none 0 0 none 0 0 none 0 0 w3 41
  have hz3 : (w3.alloc (.cells (opcs 1 2 none 0 0 none 0 0 none 0 0) 41)).heap.size = w3.heap.size + 1 := by simp
  generalize w3.alloc (.cells (opcs 1 2 none 0 0 none 0 0 none 0 0) 41) = w4 at *
  have b4 := kbelow_one w4 (.cells (opcs 1 3 none 0 0 none 0 0 none 0 0) 41)
  have h3 := OBox.box 1 3 none 0 0 none 0 0 none 0 0 w4 41
  generalize w4.alloc (.cells (opcs 1 3 none 0 0 none 0 0 none 0 0) 41) = w5 at *
  have b34 := below_add b3 b4 b3.size
  have b24 := below_add b2 b34 b2.size
  rw [hz1] at ha hz2
  rw [hz2] at h2 hz3
  rw [hz3] at h3
  exact ⟨hs1.below b24 (Nat.le_refl _), hr.below b24, ha.stay b34, h2.stay b4, h3, below_add hw1 b24 hw1.size⟩
theorem cells_two (o1 o2 : OpV) : (fl opC [o1, o2]).toArray = #[.int .u8 o1.k, .int .i64 o1.n, .slice o1.ra o1.rl o1.rc, .slice o1.sa o1.sl o1.sc, .slice o1.pa o1.pl o1.pc, .int .u8 o2.k, .int .i64 o2.n, .slice o2.ra o2.rl o2.rc, .slice o2.sa o2.sl o2.sc, .slice o2.pa o2.pl o2.pc] := rfl
theorem cells_one (o1 : OpV) : (fl opC [o1]).toArray = #[.int .u8 o1.k, .int .i64 o1.n, .slice o1.ra o1.rl o1.rc, .slice o1.sa o1.sl o1.sc, .slice o1.pa o1.pl o1.pc] := rfl
section
variable {w : World} {s : Addr} {b : Nat}
theorem k_fits (o1 o2 : OpV) (p1 p2 : Opn) (r : Int) (hr : fitsX kK [p1, p2] 3 4 = r) (q1 : OpW p1) (q2 : OpW p2) (W : World) (n : Nat) (hn : W.heap.size = n) (h : K15 w s b W) (h1 : OpR W o1 p1) (h2 : OpR W o2 p2) :
    Calls Try.prog 9 #[.pointer (some s), .slice (some ⟨n, 0, none⟩) 2 2, .int .i64 3, .int .i64 4] (W.alloc (.cells #[.int .u8 o1.k, .int .i64 o1.n, .slice o1.ra o1.rl o1.rc, .slice o1.sa o1.sl o1.sc, .slice o1.pa o1.pl o1.pc, .int .u8 o2.k, .int .i64 o2.n, .slice o2.ra o2.rl o2.rc, .slice o2.sa o2.sl o2.sc, .slice o2.pa o2.pl o2.pc] 41)) fun e w' => e = .returned (.int .i64 r) ∧ K15 w s b w' := by
  subst hn
  rw [← hr, ← cells_two o1 o2]
  have hb := kbelow_one W (.cells (fl opC [o1, o2]).toArray 41)
  exact (fits_any15 (.pointer (some s)) _ 3 4 kK [p1, p2] _ (h.s.below hb (Nat.le_refl _)) (orow_two W 41 o1 o2 p1 p2 h1 h2) (by intro p hp; simp at hp; rcases hp with rfl | rfl <;> assumption) (by omega) (by omega)).mono fun e w' ⟨he, hw⟩ => ⟨he, (h.stay hb).stay hw⟩
theorem k_may (W : World) (n : Nat) (hn : W.heap.size = n) (h : K15 w s b W) :
    Calls Try.prog 12 #[.pointer (some s), .slice (some ⟨n, 0, none⟩) 1 1] (W.alloc (.cells (opcs 0 0 none 0 0 none 0 0 none 0 0) 41)) fun e w' => e = .returned (.int .i64 3) ∧ K15 w s b w' := by
  subst hn
  have hb := kbelow_one W (.cells (fl opC [ovZ]).toArray 41)
  have := (may_anyX (.pointer (some s)) _ kK [oZ] _ (h.s.below hb (Nat.le_refl _)) (orow_one W 41 ovZ oZ (rZ W)) (by intro p hp; simp at hp; subst hp; exact wfZ)).mono fun e w' ⟨he, hw⟩ => (⟨he, (h.stay hb).stay hw⟩ : _ ∧ K15 w s b w')
  rw [m_zero] at this
  exact this
end

set_option maxRecDepth 100000 in
set_option maxHeartbeats 2000000 in
theorem known15_any (w : World) : Calls Try.prog 7 #[] w fun e w' => e = .returned (.bool true) ∧ Below w.heap.size w w' := by
  have HN := new_kK w
  rw [flat_kK] at HN
  have HN := Lib.hid HN
  go_enter Try.func7, Try.ntmps7
  go_wp2_with fail
  go_at_call 8
  refine HN.out.mono ?_
  rintro e w1 ⟨s, rfl, hs1, hb1⟩
  have HK := Lib.hid (k15_new hs1 hb1 21)
  have HF1 := Lib.hid (fun W n hn (h : K15 w s w1.heap.size W) => k_fits (ovN 2) (ovA w1.heap.size) (oN 2) oA 0 f_two (wfN (by decide)) wfA W n hn h (rN W 2) (rA h.r))
  have HF2 := Lib.hid (fun W n hn (h : K15 w s w1.heap.size W) => k_fits (ovN 3) (ovA w1.heap.size) (oN 3) oA 6 f_three (wfN (by decide)) wfA W n hn h (rN W 3) (rA h.r))
  have HF3 := Lib.hid (fun W n hn (h : K15 w s w1.heap.size W) => k_fits (ovA w1.heap.size) (ovA w1.heap.size) oA oA 8 f_aa wfA wfA W n hn h (rA h.r) (rA h.r))
  have HM := Lib.hid (fun W n hn (h : K15 w s w1.heap.size W) => k_may W n hn h)
  simp only [ovN, ovA] at HF1 HF2 HF3
  clear hs1 hb1 HN
  go_wp2_with (first
    | (go_at_call 9; (with_reducible refine (HF1.out _ _ (by simp) HK.out).mono ?_); rintro e w2 ⟨rfl, h⟩; have HK2 := Lib.hid h; obtain ⟨p0, p1, p2, p3, p4⟩ := h.a; obtain ⟨q0, q1, q2, q3, q4⟩ := h.n3; clear h)
    | (go_at_call 9; (with_reducible refine (HF2.out _ _ (by simp) HK2.out).mono ?_); rintro e w3 ⟨rfl, h⟩; have HK3 := Lib.hid h; obtain ⟨r0, r1, r2, r3, r4⟩ := h.a; clear h)
    | (go_at_call 9; (with_reducible refine (HF3.out _ _ (by simp) HK3.out).mono ?_); rintro e w4 ⟨rfl, h⟩; have HK4 := Lib.hid h; clear h)
    | (go_at_call 12; (with_reducible refine (HM.out _ _ (by simp) HK4.out).mono ?_); rintro e w5 ⟨rfl, h⟩; have HK5 := Lib.hid h; clear h))
  go_ret
  exact ⟨rfl, HK5.out.bel⟩
end Go.Proofs.Ytoiomijchchlnaa
