
import Derived.Test.YtkejebjppnhidaaC20
import Derived.Test.YtkejebjppnhidaaC21
/- C23: PatchStay -/
namespace Go.Proofs.Ytkejebjppnhidaa
open Go.RowKit
set_option linter.unusedVariables false

theorem wf0 (k : IntKind) : (Lit.int k 0).wf = true := by cases k <;> rfl
theorem w_toC {x : Att} (h : AttW x) : ChgW (toC x) := ⟨h.key, h.k, h.n, h.f, h.s⟩
theorem w_gone {x : Att} (h : AttW x) : ChgW (goneC x.key) := ⟨h.key, wf0 _, wf0 _, wf0 _, Nat.zero_le _⟩
theorem w_toA {c : Chg} (h : ChgW c) : AttW (toA c) := ⟨h.key, h.k, h.n, h.f, h.s⟩
theorem w_diff {a b : List Att} (ra : Rise a) (rb : Rise b) (ha : ∀ x ∈ a, AttW x) (hb : ∀ x ∈ b, AttW x) : ∀ c ∈ diff6 a b, ChgW c := by
  intro c hc
  have h := getC_in (diff_rise ra rb) hc
  rw [diff_get ra rb] at h
  cases h1 : getA a c.key with
  | none =>
    cases h2 : getA b c.key with
    | none => rw [h1, h2] at h; cases h
    | some y => rw [h1, h2] at h; simp only [dk] at h; injection h with h; rw [← h]; exact w_toC (hb y (getA_key h2).1)
  | some x =>
    cases h2 : getA b c.key with
    | none => rw [h1, h2] at h; simp only [dk] at h; injection h with h; rw [← h]; exact w_gone (ha x (getA_key h1).1)
    | some y =>
      rw [h1, h2] at h
      simp only [dk] at h
      split at h
      · cases h
      · injection h with h; rw [← h]; exact w_toC (hb y (getA_key h2).1)
theorem w_comp {p q : List Chg} (rp : RiseC p) (rq : RiseC q) (hp : ∀ x ∈ p, ChgW x) (hq : ∀ x ∈ q, ChgW x) : ∀ c ∈ comp p q, ChgW c := by
  intro c hc
  have h := getC_in (comp_rise rp rq) hc
  rw [comp_get rp rq] at h
  cases h1 : getC q c.key with
  | none => rw [h1] at h; exact hp c (getC_key h).1
  | some y => rw [h1] at h; simp only [Option.some_or] at h; injection h with h; rw [← h]; exact hq y (getC_key h1).1
theorem w_less {p q : List Chg} (rp : RiseC p) (rq : RiseC q) (hp : ∀ x ∈ p, ChgW x) : ∀ c ∈ less p q, ChgW c := by
  intro c hc
  have h := getC_in (less_rise rp rq) hc
  rw [less_get rp rq] at h
  split at h
  · cases h
  · exact hp c (getC_key h).1
theorem w_part {ks : List Key} {blk : Bool} {p : List Chg} (hp : ∀ x ∈ p, ChgW x) : ∀ c ∈ part6 ks blk p, ChgW c := fun c hc => hp c (List.mem_filter.1 hc).1
/-- Each attribute of what is made is one that was there, or one of the patch. -/
theorem app_from {a : List Att} {p : List Chg} (ra : Rise a) (rp : RiseC p) {x : Att} (hx : x ∈ app a p) : x ∈ a ∨ ∃ c ∈ p, x = toA c := by
  have h := getA_in (app_rise ra rp) hx
  rw [app_get ra rp] at h
  cases h1 : getC p x.key with
  | none => rw [h1] at h; exact .inl (getA_key h).1
  | some c =>
    rw [h1] at h
    simp only [ck] at h
    split at h
    · cases h
    · injection h with h; exact .inr ⟨c, (getC_key h1).1, h.symm⟩
theorem w_app {a : List Att} {p : List Chg} (ra : Rise a) (rp : RiseC p) (ha : ∀ x ∈ a, AttW x) (hp : ∀ x ∈ p, ChgW x) : ∀ x ∈ app a p, AttW x := by
  intro x hx
  rcases app_from ra rp hx with h | ⟨c, hc, rfl⟩
  · exact ha x h
  · exact w_toA (hp c hc)
theorem s_app {a : List Att} {p : List Chg} {B : Nat} (ra : Rise a) (rp : RiseC p) (ha : ∀ x ∈ a, x.s.size ≤ B) (hp : ∀ x ∈ p, x.s.size ≤ B) : ∀ x ∈ app a p, x.s.size ≤ B := by
  intro x hx
  rcases app_from ra rp hx with h | ⟨c, hc, rfl⟩
  · exact ha x h
  · exact hp c hc
theorem rmay5_h (ks : List Key) (a : List Att) (m : Int) (h : may5 ks a = m) (hW : ∀ x ∈ a, AttW x) (hS : ∀ x ∈ a, x.s.size ≤ 1000000) (pv v : Value) (W : World) (hs : Krow W pv ks) (hv : Arow W v a) :
    Calls Try.prog 30 #[pv, v] W fun e w' => e = .returned (.int .i64 m) ∧ Below W.heap.size W w' := by
  rw [← h]; exact rmay_any5 pv ks v a W hs hv hW hS
theorem sizes_of {p : List Chg} {a b : List Att} (hg : grt p [a, b] = false) (zp : totC p ≤ 1048576) (za : totA a ≤ 1048576) (zb : totA b ≤ 1048576) :
    (∀ c ∈ p, c.s.size ≤ 1000000) ∧ (∀ x ∈ a, x.s.size ≤ 1000000) ∧ (∀ x ∈ b, x.s.size ≤ 1000000) := by
  have e : totS [a, b] = totA a + totA b := by simp [totS]
  have h := grt_no hg (by rw [e]; omega)
  rw [e] at h
  refine ⟨fun c hc => ?_, fun x hx => ?_, fun x hx => ?_⟩
  · have := sizeC_le hc; unfold totC at h; omega
  · have := sizeA_le hx; unfold totA at h; omega
  · have := sizeA_le hx; unfold totA at h; omega
/-- Six lists in a row, each at its place. -/
theorem six_at (w : World) (u0 u1 u2 u3 u4 u5 : Value) (t : TypeId) : ∀ k, k < 6 → (w.alloc (.cells #[u0, u1, u2, u3, u4, u5] t)).cell? ⟨w.heap.size, 0 + k, none⟩ = some (#[u0, u1, u2, u3, u4, u5].getD k undef) := by
  intro k hk
  rw [cell_of_row _ w.heap.size _ _ t (0, 0) (heap_alloc_new w _)]
  match k, hk with
  | 0, _ => rfl
  | 1, _ => rfl
  | 2, _ => rfl
  | 3, _ => rfl
  | 4, _ => rfl
  | 5, _ => rfl

set_option maxRecDepth 100000 in
set_option maxHeartbeats 4000000 in
theorem stay_walk (kv v1 v2 : Value) (ab : Option Addr) (an ac : Nat) (bb : Option Addr) (bn bc : Nat) (ks : List Key) (a b : List Att) (p q : List Chg) (w : World) (hk : Krow w kv ks) (yk : ∀ k ∈ ks, KeyW k)
    (ha : Arow w (.slice ab an ac) a) (ya : ∀ x ∈ a, AttW x) (hb : Arow w (.slice bb bn bc) b) (yb : ∀ x ∈ b, AttW x) (hp : Crow w v1 p) (yp : ∀ x ∈ p, ChgW x) (hq : Crow w v2 q) (yq : ∀ x ∈ q, ChgW x)
    (za : totA a ≤ 1048576) (zb : totA b ≤ 1048576) (zp : totC p ≤ 1048576) :
    Calls Try.prog 8 #[kv, .slice ab an ac, .slice bb bn bc, v1, v2] w fun e w' => e = .returned (.bool true) ∧ Below w.heap.size w w' := by
  have HK := Lib.hid (fun w => known_h w)
  have hlk := hk.len
  have hk2 := hk
  obtain ⟨kb, kcap, rfl⟩ := hk2.shape
  by_cases hk64 : 64 < ks.length
  · have d1 : decide ((64 : Int) < (ks.length : Int)) = true := by rw [decide_eq_true_iff]; omega
    have HB0 := Lib.hid (Below.refl w.heap.size w)
    clear hk hk2 yk ha hp hb hq ya yb yp yq za zb zp hk64
    go_enter Try.func8, Try.ntmps8
    go_wp2_with (go_at_call 10; with_reducible (refine (HK.out _).mono ?_); rintro e w99 ⟨rfl, hb99⟩; have HB99 := Lib.hid (below_add HB0.out hb99 HB0.out.size))
    go_ret
    exact ⟨rfl, HB99.out⟩
  have d1 : decide ((64 : Int) < (ks.length : Int)) = false := by rw [decide_eq_false_iff_not]; omega
  have hB0 : Below w.heap.size w (w.alloc (.cells #[.slice ab an ac, .slice bb bn bc] 39)) := (Below.refl _ _).alloc (Nat.le_refl _) _
  obtain ⟨g1, hg1⟩ : ∃ s, grt p [a, b] = s := ⟨_, rfl⟩
  obtain ⟨g2, hg2⟩ : ∃ s, grt q [] = s := ⟨_, rfl⟩
  have HG1 := Lib.hid (great2_h p a b g1 hg1 v1 ab an ac bb bn bc w hp ha hb 39)
  have HG2 := Lib.hid (great0_h q g2 hg2)
  have Hk0 := Lib.hid (hk.below hB0 (Nat.le_refl _))
  have Ha0 := Lib.hid (ha.below hB0 (Nat.le_refl _))
  have Hb0 := Lib.hid (hb.below hB0 (Nat.le_refl _))
  have Hp0 := Lib.hid (hp.below hB0 (Nat.le_refl _))
  have Hq0 := Lib.hid (hq.below hB0 (Nat.le_refl _))
  have HB0 := Lib.hid hB0
  clear hk hk2 ha hp hb hq hB0 hg2
  by_cases qg1 : g1 = true
  · subst qg1
    go_enter Try.func8, Try.ntmps8
    go_wp2_with (first
      | (go_at_call 9; with_reducible (refine (HG1.out).mono ?_); rintro e w1 ⟨rfl, hb1⟩; have Hk1 := Lib.hid (Hk0.out.below hb1 (Nat.le_refl _)); have Ha1 := Lib.hid (Ha0.out.below hb1 (Nat.le_refl _)); have Hb1 := Lib.hid (Hb0.out.below hb1 (Nat.le_refl _)); have Hp1 := Lib.hid (Hp0.out.below hb1 (Nat.le_refl _)); have Hq1 := Lib.hid (Hq0.out.below hb1 (Nat.le_refl _)); have HB1 := Lib.hid (below_add HB0.out hb1 HB0.out.size))
      | (go_at_call 10; with_reducible (refine (HK.out _).mono ?_); rintro e w99 ⟨rfl, hb99⟩; have HB99 := Lib.hid (below_add HB1.out hb99 HB1.out.size)))
    go_ret
    exact ⟨rfl, HB99.out⟩
  obtain rfl : g1 = false := by revert qg1; cases g1 <;> simp
  clear qg1
  by_cases qg2 : g2 = true
  · subst qg2
    go_enter Try.func8, Try.ntmps8
    go_wp2_with (first
      | (go_at_call 9; with_reducible (refine (HG1.out).mono ?_); rintro e w1 ⟨rfl, hb1⟩; have Hk1 := Lib.hid (Hk0.out.below hb1 (Nat.le_refl _)); have Ha1 := Lib.hid (Ha0.out.below hb1 (Nat.le_refl _)); have Hb1 := Lib.hid (Hb0.out.below hb1 (Nat.le_refl _)); have Hp1 := Lib.hid (Hp0.out.below hb1 (Nat.le_refl _)); have Hq1 := Lib.hid (Hq0.out.below hb1 (Nat.le_refl _)); have HB1 := Lib.hid (below_add HB0.out hb1 HB0.out.size))
      | (go_at_call 9; with_reducible (refine (HG2.out _ _ Hq1.out).mono ?_); rintro e w2 ⟨rfl, hb2⟩; have Hk2 := Lib.hid (Hk1.out.below hb2 (Nat.le_refl _)); have Ha2 := Lib.hid (Ha1.out.below hb2 (Nat.le_refl _)); have Hb2 := Lib.hid (Hb1.out.below hb2 (Nat.le_refl _)); have Hp2 := Lib.hid (Hp1.out.below hb2 (Nat.le_refl _)); have Hq2 := Lib.hid (Hq1.out.below hb2 (Nat.le_refl _)); have HB2 := Lib.hid (below_add HB1.out hb2 HB1.out.size))
      | (go_at_call 10; with_reducible (refine (HK.out _).mono ?_); rintro e w99 ⟨rfl, hb99⟩; have HB99 := Lib.hid (below_add HB2.out hb99 HB2.out.size)))
    go_ret
    exact ⟨rfl, HB99.out⟩
  obtain rfl : g2 = false := by revert qg2; cases g2 <;> simp
  clear qg2
  by_cases hm : mayKs ks
  rotate_left
  · have HN := Lib.hid (newno_h ks yk hm)
    clear hm yk ya yb yp yq za zb zp hg1 hk64
    go_enter Try.func8, Try.ntmps8
    go_wp2_with (first
      | (go_at_call 9; with_reducible (refine (HG1.out).mono ?_); rintro e w1 ⟨rfl, hb1⟩; have Hk1 := Lib.hid (Hk0.out.below hb1 (Nat.le_refl _)); have Ha1 := Lib.hid (Ha0.out.below hb1 (Nat.le_refl _)); have Hb1 := Lib.hid (Hb0.out.below hb1 (Nat.le_refl _)); have Hp1 := Lib.hid (Hp0.out.below hb1 (Nat.le_refl _)); have Hq1 := Lib.hid (Hq0.out.below hb1 (Nat.le_refl _)); have HB1 := Lib.hid (below_add HB0.out hb1 HB0.out.size))
      | (go_at_call 9; with_reducible (refine (HG2.out _ _ Hq1.out).mono ?_); rintro e w2 ⟨rfl, hb2⟩; have Hk2 := Lib.hid (Hk1.out.below hb2 (Nat.le_refl _)); have Ha2 := Lib.hid (Ha1.out.below hb2 (Nat.le_refl _)); have Hb2 := Lib.hid (Hb1.out.below hb2 (Nat.le_refl _)); have Hp2 := Lib.hid (Hp1.out.below hb2 (Nat.le_refl _)); have Hq2 := Lib.hid (Hq1.out.below hb2 (Nat.le_refl _)); have HB2 := Lib.hid (below_add HB1.out hb2 HB1.out.size))
      | (go_at_call 11; with_reducible (refine (HN.out _ _ Hk2.out).mono ?_); rintro e w3 ⟨rfl, hb3⟩; have Hk3 := Lib.hid (Hk2.out.below hb3 (Nat.le_refl _)); have Ha3 := Lib.hid (Ha2.out.below hb3 (Nat.le_refl _)); have Hb3 := Lib.hid (Hb2.out.below hb3 (Nat.le_refl _)); have Hp3 := Lib.hid (Hp2.out.below hb3 (Nat.le_refl _)); have Hq3 := Lib.hid (Hq2.out.below hb3 (Nat.le_refl _)); have HB3 := Lib.hid (below_add HB2.out hb3 HB2.out.size))
      | (go_at_call 10; with_reducible (refine (HK.out _).mono ?_); rintro e w4 ⟨rfl, hb4⟩; have Hk4 := Lib.hid (Hk3.out.below hb4 (Nat.le_refl _)); have Ha4 := Lib.hid (Ha3.out.below hb4 (Nat.le_refl _)); have Hb4 := Lib.hid (Hb3.out.below hb4 (Nat.le_refl _)); have Hp4 := Lib.hid (Hp3.out.below hb4 (Nat.le_refl _)); have Hq4 := Lib.hid (Hq3.out.below hb4 (Nat.le_refl _)); have HB4 := Lib.hid (below_add HB3.out hb4 HB3.out.size)))
    go_ret
    exact ⟨rfl, HB4.out⟩
  have HN := Lib.hid (new_h ks yk hm)
  obtain ⟨sp, sa, sb⟩ := sizes_of hg1 zp za zb
  have la := totA_len za
  have lb := totA_len zb
  have lp := totC_len zp
  have hk6 := hm.1
  clear hm yk za zb zp hg1 hk64
  obtain ⟨m1, hm1⟩ : ∃ m, may6 ks p = m := ⟨_, rfl⟩
  obtain ⟨m2, hm2⟩ : ∃ m, may6 ks q = m := ⟨_, rfl⟩
  obtain ⟨m3, hm3⟩ : ∃ m, may5 ks a = m := ⟨_, rfl⟩
  obtain ⟨m4, hm4⟩ : ∃ m, may5 ks b = m := ⟨_, rfl⟩
  have HM1 := Lib.hid (may6_h ks p m1 hm1 yp)
  have HM2 := Lib.hid (may6_h ks q m2 hm2 yq)
  have HM3 := Lib.hid (rmay5_h ks a m3 hm3 ya sa)
  have HM4 := Lib.hid (rmay5_h ks b m4 hm4 yb sb)
  by_cases qm1 : m1 = 0
  rotate_left
  · have hmz : (m1 != 0) = true := by simpa using qm1
    clear hm1 hm2 hm3 hm4 ya yb yp yq sp sa sb qm1 la lb lp hk6
    go_enter Try.func8, Try.ntmps8
    go_wp2_with (first
      | (go_at_call 9; with_reducible (refine (HG1.out).mono ?_); rintro e w1 ⟨rfl, hb1⟩; have Hk1 := Lib.hid (Hk0.out.below hb1 (Nat.le_refl _)); have Ha1 := Lib.hid (Ha0.out.below hb1 (Nat.le_refl _)); have Hb1 := Lib.hid (Hb0.out.below hb1 (Nat.le_refl _)); have Hp1 := Lib.hid (Hp0.out.below hb1 (Nat.le_refl _)); have Hq1 := Lib.hid (Hq0.out.below hb1 (Nat.le_refl _)); have HB1 := Lib.hid (below_add HB0.out hb1 HB0.out.size))
      | (go_at_call 9; with_reducible (refine (HG2.out _ _ Hq1.out).mono ?_); rintro e w2 ⟨rfl, hb2⟩; have Hk2 := Lib.hid (Hk1.out.below hb2 (Nat.le_refl _)); have Ha2 := Lib.hid (Ha1.out.below hb2 (Nat.le_refl _)); have Hb2 := Lib.hid (Hb1.out.below hb2 (Nat.le_refl _)); have Hp2 := Lib.hid (Hp1.out.below hb2 (Nat.le_refl _)); have Hq2 := Lib.hid (Hq1.out.below hb2 (Nat.le_refl _)); have HB2 := Lib.hid (below_add HB1.out hb2 HB1.out.size))
      | (go_at_call 11; with_reducible (refine (HN.out _ _ Hk2.out).mono ?_); rintro e w3 ⟨s, rfl, Hs3, hb3⟩; have Hk3 := Lib.hid (Hk2.out.below hb3 (Nat.le_refl _)); have Ha3 := Lib.hid (Ha2.out.below hb3 (Nat.le_refl _)); have Hb3 := Lib.hid (Hb2.out.below hb3 (Nat.le_refl _)); have Hp3 := Lib.hid (Hp2.out.below hb3 (Nat.le_refl _)); have Hq3 := Lib.hid (Hq2.out.below hb3 (Nat.le_refl _)); have HB3 := Lib.hid (below_add HB2.out hb3 HB2.out.size))
      | (go_at_call 13; with_reducible (refine (HM1.out _ _ _ Hs3.out Hp3.out).mono ?_); rintro e w4 ⟨rfl, hb4⟩; have Hk4 := Lib.hid (Hk3.out.below hb4 (Nat.le_refl _)); have Ha4 := Lib.hid (Ha3.out.below hb4 (Nat.le_refl _)); have Hb4 := Lib.hid (Hb3.out.below hb4 (Nat.le_refl _)); have Hp4 := Lib.hid (Hp3.out.below hb4 (Nat.le_refl _)); have Hq4 := Lib.hid (Hq3.out.below hb4 (Nat.le_refl _)); have Hs4 := Lib.hid (Hs3.out.below hb4 (Nat.le_refl _)); have HB4 := Lib.hid (below_add HB3.out hb4 HB3.out.size))
      | (go_at_call 10; with_reducible (refine (HK.out _).mono ?_); rintro e w5 ⟨rfl, hb5⟩; have Hk5 := Lib.hid (Hk4.out.below hb5 (Nat.le_refl _)); have Ha5 := Lib.hid (Ha4.out.below hb5 (Nat.le_refl _)); have Hb5 := Lib.hid (Hb4.out.below hb5 (Nat.le_refl _)); have Hp5 := Lib.hid (Hp4.out.below hb5 (Nat.le_refl _)); have Hq5 := Lib.hid (Hq4.out.below hb5 (Nat.le_refl _)); have Hs5 := Lib.hid (Hs4.out.below hb5 (Nat.le_refl _)); have HB5 := Lib.hid (below_add HB4.out hb5 HB4.out.size)))
    go_ret
    exact ⟨rfl, HB5.out⟩
  subst qm1
  by_cases qm2 : m2 = 0
  rotate_left
  · have hmz : (m2 != 0) = true := by simpa using qm2
    clear hm1 hm2 hm3 hm4 ya yb yp yq sp sa sb qm2 la lb lp hk6
    go_enter Try.func8, Try.ntmps8
    go_wp2_with (first
      | (go_at_call 9; with_reducible (refine (HG1.out).mono ?_); rintro e w1 ⟨rfl, hb1⟩; have Hk1 := Lib.hid (Hk0.out.below hb1 (Nat.le_refl _)); have Ha1 := Lib.hid (Ha0.out.below hb1 (Nat.le_refl _)); have Hb1 := Lib.hid (Hb0.out.below hb1 (Nat.le_refl _)); have Hp1 := Lib.hid (Hp0.out.below hb1 (Nat.le_refl _)); have Hq1 := Lib.hid (Hq0.out.below hb1 (Nat.le_refl _)); have HB1 := Lib.hid (below_add HB0.out hb1 HB0.out.size))
      | (go_at_call 9; with_reducible (refine (HG2.out _ _ Hq1.out).mono ?_); rintro e w2 ⟨rfl, hb2⟩; have Hk2 := Lib.hid (Hk1.out.below hb2 (Nat.le_refl _)); have Ha2 := Lib.hid (Ha1.out.below hb2 (Nat.le_refl _)); have Hb2 := Lib.hid (Hb1.out.below hb2 (Nat.le_refl _)); have Hp2 := Lib.hid (Hp1.out.below hb2 (Nat.le_refl _)); have Hq2 := Lib.hid (Hq1.out.below hb2 (Nat.le_refl _)); have HB2 := Lib.hid (below_add HB1.out hb2 HB1.out.size))
      | (go_at_call 11; with_reducible (refine (HN.out _ _ Hk2.out).mono ?_); rintro e w3 ⟨s, rfl, Hs3, hb3⟩; have Hk3 := Lib.hid (Hk2.out.below hb3 (Nat.le_refl _)); have Ha3 := Lib.hid (Ha2.out.below hb3 (Nat.le_refl _)); have Hb3 := Lib.hid (Hb2.out.below hb3 (Nat.le_refl _)); have Hp3 := Lib.hid (Hp2.out.below hb3 (Nat.le_refl _)); have Hq3 := Lib.hid (Hq2.out.below hb3 (Nat.le_refl _)); have HB3 := Lib.hid (below_add HB2.out hb3 HB2.out.size))
      | (go_at_call 13; with_reducible (refine (HM1.out _ _ _ Hs3.out Hp3.out).mono ?_); rintro e w4 ⟨rfl, hb4⟩; have Hk4 := Lib.hid (Hk3.out.below hb4 (Nat.le_refl _)); have Ha4 := Lib.hid (Ha3.out.below hb4 (Nat.le_refl _)); have Hb4 := Lib.hid (Hb3.out.below hb4 (Nat.le_refl _)); have Hp4 := Lib.hid (Hp3.out.below hb4 (Nat.le_refl _)); have Hq4 := Lib.hid (Hq3.out.below hb4 (Nat.le_refl _)); have Hs4 := Lib.hid (Hs3.out.below hb4 (Nat.le_refl _)); have HB4 := Lib.hid (below_add HB3.out hb4 HB3.out.size))
      | (go_at_call 13; with_reducible (refine (HM2.out _ _ _ Hs4.out Hq4.out).mono ?_); rintro e w5 ⟨rfl, hb5⟩; have Hk5 := Lib.hid (Hk4.out.below hb5 (Nat.le_refl _)); have Ha5 := Lib.hid (Ha4.out.below hb5 (Nat.le_refl _)); have Hb5 := Lib.hid (Hb4.out.below hb5 (Nat.le_refl _)); have Hp5 := Lib.hid (Hp4.out.below hb5 (Nat.le_refl _)); have Hq5 := Lib.hid (Hq4.out.below hb5 (Nat.le_refl _)); have Hs5 := Lib.hid (Hs4.out.below hb5 (Nat.le_refl _)); have HB5 := Lib.hid (below_add HB4.out hb5 HB4.out.size))
      | (go_at_call 10; with_reducible (refine (HK.out _).mono ?_); rintro e w6 ⟨rfl, hb6⟩; have Hk6 := Lib.hid (Hk5.out.below hb6 (Nat.le_refl _)); have Ha6 := Lib.hid (Ha5.out.below hb6 (Nat.le_refl _)); have Hb6 := Lib.hid (Hb5.out.below hb6 (Nat.le_refl _)); have Hp6 := Lib.hid (Hp5.out.below hb6 (Nat.le_refl _)); have Hq6 := Lib.hid (Hq5.out.below hb6 (Nat.le_refl _)); have Hs6 := Lib.hid (Hs5.out.below hb6 (Nat.le_refl _)); have HB6 := Lib.hid (below_add HB5.out hb6 HB5.out.size)))
    go_ret
    exact ⟨rfl, HB6.out⟩
  subst qm2
  by_cases qm3 : m3 = 0
  rotate_left
  · have hmz : (m3 != 0) = true := by simpa using qm3
    clear hm1 hm2 hm3 hm4 ya yb yp yq sp sa sb qm3 la lb lp hk6
    go_enter Try.func8, Try.ntmps8
    go_wp2_with (first
      | (go_at_call 9; with_reducible (refine (HG1.out).mono ?_); rintro e w1 ⟨rfl, hb1⟩; have Hk1 := Lib.hid (Hk0.out.below hb1 (Nat.le_refl _)); have Ha1 := Lib.hid (Ha0.out.below hb1 (Nat.le_refl _)); have Hb1 := Lib.hid (Hb0.out.below hb1 (Nat.le_refl _)); have Hp1 := Lib.hid (Hp0.out.below hb1 (Nat.le_refl _)); have Hq1 := Lib.hid (Hq0.out.below hb1 (Nat.le_refl _)); have HB1 := Lib.hid (below_add HB0.out hb1 HB0.out.size))
      | (go_at_call 9; with_reducible (refine (HG2.out _ _ Hq1.out).mono ?_); rintro e w2 ⟨rfl, hb2⟩; have Hk2 := Lib.hid (Hk1.out.below hb2 (Nat.le_refl _)); have Ha2 := Lib.hid (Ha1.out.below hb2 (Nat.le_refl _)); have Hb2 := Lib.hid (Hb1.out.below hb2 (Nat.le_refl _)); have Hp2 := Lib.hid (Hp1.out.below hb2 (Nat.le_refl _)); have Hq2 := Lib.hid (Hq1.out.below hb2 (Nat.le_refl _)); have HB2 := Lib.hid (below_add HB1.out hb2 HB1.out.size))
      | (go_at_call 11; with_reducible (refine (HN.out _ _ Hk2.out).mono ?_); rintro e w3 ⟨s, rfl, Hs3, hb3⟩; have Hk3 := Lib.hid (Hk2.out.below hb3 (Nat.le_refl _)); have Ha3 := Lib.hid (Ha2.out.below hb3 (Nat.le_refl _)); have Hb3 := Lib.hid (Hb2.out.below hb3 (Nat.le_refl _)); have Hp3 := Lib.hid (Hp2.out.below hb3 (Nat.le_refl _)); have Hq3 := Lib.hid (Hq2.out.below hb3 (Nat.le_refl _)); have HB3 := Lib.hid (below_add HB2.out hb3 HB2.out.size))
      | (go_at_call 13; with_reducible (refine (HM1.out _ _ _ Hs3.out Hp3.out).mono ?_); rintro e w4 ⟨rfl, hb4⟩; have Hk4 := Lib.hid (Hk3.out.below hb4 (Nat.le_refl _)); have Ha4 := Lib.hid (Ha3.out.below hb4 (Nat.le_refl _)); have Hb4 := Lib.hid (Hb3.out.below hb4 (Nat.le_refl _)); have Hp4 := Lib.hid (Hp3.out.below hb4 (Nat.le_refl _)); have Hq4 := Lib.hid (Hq3.out.below hb4 (Nat.le_refl _)); have Hs4 := Lib.hid (Hs3.out.below hb4 (Nat.le_refl _)); have HB4 := Lib.hid (below_add HB3.out hb4 HB3.out.size))
      | (go_at_call 13; with_reducible (refine (HM2.out _ _ _ Hs4.out Hq4.out).mono ?_); rintro e w5 ⟨rfl, hb5⟩; have Hk5 := Lib.hid (Hk4.out.below hb5 (Nat.le_refl _)); have Ha5 := Lib.hid (Ha4.out.below hb5 (Nat.le_refl _)); have Hb5 := Lib.hid (Hb4.out.below hb5 (Nat.le_refl _)); have Hp5 := Lib.hid (Hp4.out.below hb5 (Nat.le_refl _)); have Hq5 := Lib.hid (Hq4.out.below hb5 (Nat.le_refl _)); have Hs5 := Lib.hid (Hs4.out.below hb5 (Nat.le_refl _)); have HB5 := Lib.hid (below_add HB4.out hb5 HB4.out.size))
      | (go_at_call 30; with_reducible (refine (HM3.out _ _ _ Hk5.out Ha5.out).mono ?_); rintro e w6 ⟨rfl, hb6⟩; have Hk6 := Lib.hid (Hk5.out.below hb6 (Nat.le_refl _)); have Ha6 := Lib.hid (Ha5.out.below hb6 (Nat.le_refl _)); have Hb6 := Lib.hid (Hb5.out.below hb6 (Nat.le_refl _)); have Hp6 := Lib.hid (Hp5.out.below hb6 (Nat.le_refl _)); have Hq6 := Lib.hid (Hq5.out.below hb6 (Nat.le_refl _)); have Hs6 := Lib.hid (Hs5.out.below hb6 (Nat.le_refl _)); have HB6 := Lib.hid (below_add HB5.out hb6 HB5.out.size))
      | (go_at_call 10; with_reducible (refine (HK.out _).mono ?_); rintro e w7 ⟨rfl, hb7⟩; have Hk7 := Lib.hid (Hk6.out.below hb7 (Nat.le_refl _)); have Ha7 := Lib.hid (Ha6.out.below hb7 (Nat.le_refl _)); have Hb7 := Lib.hid (Hb6.out.below hb7 (Nat.le_refl _)); have Hp7 := Lib.hid (Hp6.out.below hb7 (Nat.le_refl _)); have Hq7 := Lib.hid (Hq6.out.below hb7 (Nat.le_refl _)); have Hs7 := Lib.hid (Hs6.out.below hb7 (Nat.le_refl _)); have HB7 := Lib.hid (below_add HB6.out hb7 HB6.out.size)))
    go_ret
    exact ⟨rfl, HB7.out⟩
  subst qm3
  by_cases qm4 : m4 = 0
  rotate_left
  · have hmz : (m4 != 0) = true := by simpa using qm4
    clear hm1 hm2 hm3 hm4 ya yb yp yq sp sa sb qm4 la lb lp hk6
    go_enter Try.func8, Try.ntmps8
    go_wp2_with (first
      | (go_at_call 9; with_reducible (refine (HG1.out).mono ?_); rintro e w1 ⟨rfl, hb1⟩; have Hk1 := Lib.hid (Hk0.out.below hb1 (Nat.le_refl _)); have Ha1 := Lib.hid (Ha0.out.below hb1 (Nat.le_refl _)); have Hb1 := Lib.hid (Hb0.out.below hb1 (Nat.le_refl _)); have Hp1 := Lib.hid (Hp0.out.below hb1 (Nat.le_refl _)); have Hq1 := Lib.hid (Hq0.out.below hb1 (Nat.le_refl _)); have HB1 := Lib.hid (below_add HB0.out hb1 HB0.out.size))
      | (go_at_call 9; with_reducible (refine (HG2.out _ _ Hq1.out).mono ?_); rintro e w2 ⟨rfl, hb2⟩; have Hk2 := Lib.hid (Hk1.out.below hb2 (Nat.le_refl _)); have Ha2 := Lib.hid (Ha1.out.below hb2 (Nat.le_refl _)); have Hb2 := Lib.hid (Hb1.out.below hb2 (Nat.le_refl _)); have Hp2 := Lib.hid (Hp1.out.below hb2 (Nat.le_refl _)); have Hq2 := Lib.hid (Hq1.out.below hb2 (Nat.le_refl _)); have HB2 := Lib.hid (below_add HB1.out hb2 HB1.out.size))
      | (go_at_call 11; with_reducible (refine (HN.out _ _ Hk2.out).mono ?_); rintro e w3 ⟨s, rfl, Hs3, hb3⟩; have Hk3 := Lib.hid (Hk2.out.below hb3 (Nat.le_refl _)); have Ha3 := Lib.hid (Ha2.out.below hb3 (Nat.le_refl _)); have Hb3 := Lib.hid (Hb2.out.below hb3 (Nat.le_refl _)); have Hp3 := Lib.hid (Hp2.out.below hb3 (Nat.le_refl _)); have Hq3 := Lib.hid (Hq2.out.below hb3 (Nat.le_refl _)); have HB3 := Lib.hid (below_add HB2.out hb3 HB2.out.size))
      | (go_at_call 13; with_reducible (refine (HM1.out _ _ _ Hs3.out Hp3.out).mono ?_); rintro e w4 ⟨rfl, hb4⟩; have Hk4 := Lib.hid (Hk3.out.below hb4 (Nat.le_refl _)); have Ha4 := Lib.hid (Ha3.out.below hb4 (Nat.le_refl _)); have Hb4 := Lib.hid (Hb3.out.below hb4 (Nat.le_refl _)); have Hp4 := Lib.hid (Hp3.out.below hb4 (Nat.le_refl _)); have Hq4 := Lib.hid (Hq3.out.below hb4 (Nat.le_refl _)); have Hs4 := Lib.hid (Hs3.out.below hb4 (Nat.le_refl _)); have HB4 := Lib.hid (below_add HB3.out hb4 HB3.out.size))
      | (go_at_call 13; with_reducible (refine (HM2.out _ _ _ Hs4.out Hq4.out).mono ?_); rintro e w5 ⟨rfl, hb5⟩; have Hk5 := Lib.hid (Hk4.out.below hb5 (Nat.le_refl _)); have Ha5 := Lib.hid (Ha4.out.below hb5 (Nat.le_refl _)); have Hb5 := Lib.hid (Hb4.out.below hb5 (Nat.le_refl _)); have Hp5 := Lib.hid (Hp4.out.below hb5 (Nat.le_refl _)); have Hq5 := Lib.hid (Hq4.out.below hb5 (Nat.le_refl _)); have Hs5 := Lib.hid (Hs4.out.below hb5 (Nat.le_refl _)); have HB5 := Lib.hid (below_add HB4.out hb5 HB4.out.size))
      | (go_at_call 30; with_reducible (refine (HM3.out _ _ _ Hk5.out Ha5.out).mono ?_); rintro e w6 ⟨rfl, hb6⟩; have Hk6 := Lib.hid (Hk5.out.below hb6 (Nat.le_refl _)); have Ha6 := Lib.hid (Ha5.out.below hb6 (Nat.le_refl _)); have Hb6 := Lib.hid (Hb5.out.below hb6 (Nat.le_refl _)); have Hp6 := Lib.hid (Hp5.out.below hb6 (Nat.le_refl _)); have Hq6 := Lib.hid (Hq5.out.below hb6 (Nat.le_refl _)); have Hs6 := Lib.hid (Hs5.out.below hb6 (Nat.le_refl _)); have HB6 := Lib.hid (below_add HB5.out hb6 HB5.out.size))
      | (go_at_call 30; with_reducible (refine (HM4.out _ _ _ Hk6.out Hb6.out).mono ?_); rintro e w7 ⟨rfl, hb7⟩; have Hk7 := Lib.hid (Hk6.out.below hb7 (Nat.le_refl _)); have Ha7 := Lib.hid (Ha6.out.below hb7 (Nat.le_refl _)); have Hb7 := Lib.hid (Hb6.out.below hb7 (Nat.le_refl _)); have Hp7 := Lib.hid (Hp6.out.below hb7 (Nat.le_refl _)); have Hq7 := Lib.hid (Hq6.out.below hb7 (Nat.le_refl _)); have Hs7 := Lib.hid (Hs6.out.below hb7 (Nat.le_refl _)); have HB7 := Lib.hid (below_add HB6.out hb7 HB6.out.size))
      | (go_at_call 10; with_reducible (refine (HK.out _).mono ?_); rintro e w8 ⟨rfl, hb8⟩; have Hk8 := Lib.hid (Hk7.out.below hb8 (Nat.le_refl _)); have Ha8 := Lib.hid (Ha7.out.below hb8 (Nat.le_refl _)); have Hb8 := Lib.hid (Hb7.out.below hb8 (Nat.le_refl _)); have Hp8 := Lib.hid (Hp7.out.below hb8 (Nat.le_refl _)); have Hq8 := Lib.hid (Hq7.out.below hb8 (Nat.le_refl _)); have Hs8 := Lib.hid (Hs7.out.below hb8 (Nat.le_refl _)); have HB8 := Lib.hid (below_add HB7.out hb8 HB7.out.size)))
    go_ret
    exact ⟨rfl, HB8.out⟩
  subst qm4
  have l6p := (may6_iff hk6).1 hm1
  have l6q := (may6_iff hk6).1 hm2
  have l5a := (may_iff hk6).1 hm3
  have l5b := (may_iff hk6).1 hm4
  have lq : q.length ≤ 64 := (wf6_parts (may6_zero.1 hm2).1).2.1
  have s1 := app_len a p
  have HC1 := Lib.hid (diff_h a b _ rfl (by omega))
  have HC2 := Lib.hid (comp_h p q _ rfl (by omega))
  have HC3 := Lib.hid (inv_h a p _ rfl (by omega))
  have HC4 := Lib.hid (less_h p q _ rfl (by omega))
  have HC5 := Lib.hid (part6_h ks p true yp (by omega))
  have HC6 := Lib.hid (part6_h ks p false yp (by omega))
  have HC7 := Lib.hid (app_h a p _ rfl (by omega))
  have HL1 := Lib.hid (may6_h ks (diff6 a b) 0 (may_diff hk6 hm3 hm4) (w_diff l5a.1 l5b.1 ya yb))
  have HL2 := Lib.hid (may6_h ks (comp p q) 0 (may_comp hk6 hm1 hm2) (w_comp l6p.1 l6q.1 yp yq))
  have HL3 := Lib.hid (may6_h ks (inv a p) 0 (may_inv hk6 hm3 hm1) (w_diff (app_rise l5a.1 l6p.1) l5a.1 (w_app l5a.1 l6p.1 ya yp) ya))
  have HL4 := Lib.hid (may6_h ks (less p q) 0 (may_less hk6 hm1 hm2) (w_less l6p.1 l6q.1 yp))
  have HL5 := Lib.hid (may6_h ks (part6 ks true p) 0 (may_part6 hk6 hm1 true) (w_part yp))
  have HL6 := Lib.hid (may6_h ks (part6 ks false p) 0 (may_part6 hk6 hm1 false) (w_part yp))
  have HL7 := Lib.hid (rmay5_h ks (app a p) 0 (may_app hk6 hm3 hm1) (w_app l5a.1 l6p.1 ya yp) (s_app l5a.1 l6p.1 sa sp))
  clear hm1 hm2 hm3 hm4 ya yb yp yq sp sa sb la lb lp hk6 l6p l6q l5a l5b lq s1
  generalize diff6 a b = L1 at *
  generalize comp p q = L2 at *
  generalize inv a p = L3 at *
  generalize less p q = L4 at *
  generalize part6 ks true p = L5 at *
  generalize part6 ks false p = L6 at *
  generalize app a p = L7 at *
  go_enter Try.func8, Try.ntmps8
  go_wp2_with (first
    | (go_at_call 9; with_reducible (refine (HG1.out).mono ?_); rintro e w1 ⟨rfl, hb1⟩; have Hk1 := Lib.hid (Hk0.out.below hb1 (Nat.le_refl _)); have Ha1 := Lib.hid (Ha0.out.below hb1 (Nat.le_refl _)); have Hb1 := Lib.hid (Hb0.out.below hb1 (Nat.le_refl _)); have Hp1 := Lib.hid (Hp0.out.below hb1 (Nat.le_refl _)); have Hq1 := Lib.hid (Hq0.out.below hb1 (Nat.le_refl _)); have HB1 := Lib.hid (below_add HB0.out hb1 HB0.out.size))
    | (go_at_call 9; with_reducible (refine (HG2.out _ _ Hq1.out).mono ?_); rintro e w2 ⟨rfl, hb2⟩; have Hk2 := Lib.hid (Hk1.out.below hb2 (Nat.le_refl _)); have Ha2 := Lib.hid (Ha1.out.below hb2 (Nat.le_refl _)); have Hb2 := Lib.hid (Hb1.out.below hb2 (Nat.le_refl _)); have Hp2 := Lib.hid (Hp1.out.below hb2 (Nat.le_refl _)); have Hq2 := Lib.hid (Hq1.out.below hb2 (Nat.le_refl _)); have HB2 := Lib.hid (below_add HB1.out hb2 HB1.out.size))
    | (go_at_call 11; with_reducible (refine (HN.out _ _ Hk2.out).mono ?_); rintro e w3 ⟨s, rfl, Hs3, hb3⟩; have Hk3 := Lib.hid (Hk2.out.below hb3 (Nat.le_refl _)); have Ha3 := Lib.hid (Ha2.out.below hb3 (Nat.le_refl _)); have Hb3 := Lib.hid (Hb2.out.below hb3 (Nat.le_refl _)); have Hp3 := Lib.hid (Hp2.out.below hb3 (Nat.le_refl _)); have Hq3 := Lib.hid (Hq2.out.below hb3 (Nat.le_refl _)); have HB3 := Lib.hid (below_add HB2.out hb3 HB2.out.size))
    | (go_at_call 13; with_reducible (refine (HM1.out _ _ _ Hs3.out Hp3.out).mono ?_); rintro e w4 ⟨rfl, hb4⟩; have Hk4 := Lib.hid (Hk3.out.below hb4 (Nat.le_refl _)); have Ha4 := Lib.hid (Ha3.out.below hb4 (Nat.le_refl _)); have Hb4 := Lib.hid (Hb3.out.below hb4 (Nat.le_refl _)); have Hp4 := Lib.hid (Hp3.out.below hb4 (Nat.le_refl _)); have Hq4 := Lib.hid (Hq3.out.below hb4 (Nat.le_refl _)); have Hs4 := Lib.hid (Hs3.out.below hb4 (Nat.le_refl _)); have HB4 := Lib.hid (below_add HB3.out hb4 HB3.out.size))
    | (go_at_call 13; with_reducible (refine (HM2.out _ _ _ Hs4.out Hq4.out).mono ?_); rintro e w5 ⟨rfl, hb5⟩; have Hk5 := Lib.hid (Hk4.out.below hb5 (Nat.le_refl _)); have Ha5 := Lib.hid (Ha4.out.below hb5 (Nat.le_refl _)); have Hb5 := Lib.hid (Hb4.out.below hb5 (Nat.le_refl _)); have Hp5 := Lib.hid (Hp4.out.below hb5 (Nat.le_refl _)); have Hq5 := Lib.hid (Hq4.out.below hb5 (Nat.le_refl _)); have Hs5 := Lib.hid (Hs4.out.below hb5 (Nat.le_refl _)); have HB5 := Lib.hid (below_add HB4.out hb5 HB4.out.size))
    | (go_at_call 30; with_reducible (refine (HM3.out _ _ _ Hk5.out Ha5.out).mono ?_); rintro e w6 ⟨rfl, hb6⟩; have Hk6 := Lib.hid (Hk5.out.below hb6 (Nat.le_refl _)); have Ha6 := Lib.hid (Ha5.out.below hb6 (Nat.le_refl _)); have Hb6 := Lib.hid (Hb5.out.below hb6 (Nat.le_refl _)); have Hp6 := Lib.hid (Hp5.out.below hb6 (Nat.le_refl _)); have Hq6 := Lib.hid (Hq5.out.below hb6 (Nat.le_refl _)); have Hs6 := Lib.hid (Hs5.out.below hb6 (Nat.le_refl _)); have HB6 := Lib.hid (below_add HB5.out hb6 HB5.out.size))
    | (go_at_call 30; with_reducible (refine (HM4.out _ _ _ Hk6.out Hb6.out).mono ?_); rintro e w7 ⟨rfl, hb7⟩; have Hk7 := Lib.hid (Hk6.out.below hb7 (Nat.le_refl _)); have Ha7 := Lib.hid (Ha6.out.below hb7 (Nat.le_refl _)); have Hb7 := Lib.hid (Hb6.out.below hb7 (Nat.le_refl _)); have Hp7 := Lib.hid (Hp6.out.below hb7 (Nat.le_refl _)); have Hq7 := Lib.hid (Hq6.out.below hb7 (Nat.le_refl _)); have Hs7 := Lib.hid (Hs6.out.below hb7 (Nat.le_refl _)); have HB7 := Lib.hid (below_add HB6.out hb7 HB6.out.size))
    | (go_at_call 26; with_reducible (refine (HC1.out _ _ _ Ha7.out Hb7.out).mono ?_); rintro e w8 ⟨u8, rfl, Hd8, hb8⟩; obtain ⟨sa8, sc8, rfl⟩ := Hd8.out.shape; have Hk8 := Lib.hid (Hk7.out.below hb8 (Nat.le_refl _)); have Ha8 := Lib.hid (Ha7.out.below hb8 (Nat.le_refl _)); have Hb8 := Lib.hid (Hb7.out.below hb8 (Nat.le_refl _)); have Hp8 := Lib.hid (Hp7.out.below hb8 (Nat.le_refl _)); have Hq8 := Lib.hid (Hq7.out.below hb8 (Nat.le_refl _)); have Hs8 := Lib.hid (Hs7.out.below hb8 (Nat.le_refl _)); have HB8 := Lib.hid (below_add HB7.out hb8 HB7.out.size))
    | (go_at_call 24; with_reducible (refine (HC2.out _ _ _ Hp8.out Hq8.out).mono ?_); rintro e w9 ⟨u9, rfl, Hc9, hb9⟩; obtain ⟨sa9, sc9, rfl⟩ := Hc9.out.shape; have Hk9 := Lib.hid (Hk8.out.below hb9 (Nat.le_refl _)); have Ha9 := Lib.hid (Ha8.out.below hb9 (Nat.le_refl _)); have Hp9 := Lib.hid (Hp8.out.below hb9 (Nat.le_refl _)); have Hq9 := Lib.hid (Hq8.out.below hb9 (Nat.le_refl _)); have Hs9 := Lib.hid (Hs8.out.below hb9 (Nat.le_refl _)); have Hd9 := Lib.hid (Hd8.out.below hb9 (Nat.le_refl _)); have HB9 := Lib.hid (below_add HB8.out hb9 HB8.out.size))
    | (go_at_call 25; with_reducible (refine (HC3.out _ _ _ Ha9.out Hp9.out).mono ?_); rintro e w10 ⟨u10, rfl, Hi10, hb10⟩; obtain ⟨sa10, sc10, rfl⟩ := Hi10.out.shape; have Hk10 := Lib.hid (Hk9.out.below hb10 (Nat.le_refl _)); have Ha10 := Lib.hid (Ha9.out.below hb10 (Nat.le_refl _)); have Hp10 := Lib.hid (Hp9.out.below hb10 (Nat.le_refl _)); have Hq10 := Lib.hid (Hq9.out.below hb10 (Nat.le_refl _)); have Hs10 := Lib.hid (Hs9.out.below hb10 (Nat.le_refl _)); have Hd10 := Lib.hid (Hd9.out.below hb10 (Nat.le_refl _)); have Hc10 := Lib.hid (Hc9.out.below hb10 (Nat.le_refl _)); have HB10 := Lib.hid (below_add HB9.out hb10 HB9.out.size))
    | (go_at_call 27; with_reducible (refine (HC4.out _ _ _ Hp10.out Hq10.out).mono ?_); rintro e w11 ⟨u11, rfl, Hl11, hb11⟩; obtain ⟨sa11, sc11, rfl⟩ := Hl11.out.shape; have Hk11 := Lib.hid (Hk10.out.below hb11 (Nat.le_refl _)); have Ha11 := Lib.hid (Ha10.out.below hb11 (Nat.le_refl _)); have Hp11 := Lib.hid (Hp10.out.below hb11 (Nat.le_refl _)); have Hq11 := Lib.hid (Hq10.out.below hb11 (Nat.le_refl _)); have Hs11 := Lib.hid (Hs10.out.below hb11 (Nat.le_refl _)); have Hd11 := Lib.hid (Hd10.out.below hb11 (Nat.le_refl _)); have Hc11 := Lib.hid (Hc10.out.below hb11 (Nat.le_refl _)); have Hi11 := Lib.hid (Hi10.out.below hb11 (Nat.le_refl _)); have HB11 := Lib.hid (below_add HB10.out hb11 HB10.out.size))
    | (go_at_call 18; with_reducible (refine (HC5.out _ _ _ Hs11.out Hp11.out).mono ?_); rintro e w12 ⟨u12, rfl, Hx12, hb12⟩; obtain ⟨sa12, sc12, rfl⟩ := Hx12.out.shape; have Hk12 := Lib.hid (Hk11.out.below hb12 (Nat.le_refl _)); have Ha12 := Lib.hid (Ha11.out.below hb12 (Nat.le_refl _)); have Hp12 := Lib.hid (Hp11.out.below hb12 (Nat.le_refl _)); have Hs12 := Lib.hid (Hs11.out.below hb12 (Nat.le_refl _)); have Hd12 := Lib.hid (Hd11.out.below hb12 (Nat.le_refl _)); have Hc12 := Lib.hid (Hc11.out.below hb12 (Nat.le_refl _)); have Hi12 := Lib.hid (Hi11.out.below hb12 (Nat.le_refl _)); have Hl12 := Lib.hid (Hl11.out.below hb12 (Nat.le_refl _)); have HB12 := Lib.hid (below_add HB11.out hb12 HB11.out.size))
    | (go_at_call 18; with_reducible (refine (HC6.out _ _ _ Hs12.out Hp12.out).mono ?_); rintro e w13 ⟨u13, rfl, Hy13, hb13⟩; obtain ⟨sa13, sc13, rfl⟩ := Hy13.out.shape; have Hk13 := Lib.hid (Hk12.out.below hb13 (Nat.le_refl _)); have Ha13 := Lib.hid (Ha12.out.below hb13 (Nat.le_refl _)); have Hp13 := Lib.hid (Hp12.out.below hb13 (Nat.le_refl _)); have Hs13 := Lib.hid (Hs12.out.below hb13 (Nat.le_refl _)); have Hd13 := Lib.hid (Hd12.out.below hb13 (Nat.le_refl _)); have Hc13 := Lib.hid (Hc12.out.below hb13 (Nat.le_refl _)); have Hi13 := Lib.hid (Hi12.out.below hb13 (Nat.le_refl _)); have Hl13 := Lib.hid (Hl12.out.below hb13 (Nat.le_refl _)); have Hx13 := Lib.hid (Hx12.out.below hb13 (Nat.le_refl _)); have HB13 := Lib.hid (below_add HB12.out hb13 HB12.out.size)))
  have hbA : Below w13.heap.size w13 (w13.alloc (.cells #[.slice sa8 L1.length sc8, .slice sa9 L2.length sc9, .slice sa10 L3.length sc10, .slice sa11 L4.length sc11, .slice sa12 L5.length sc12, .slice sa13 L6.length sc13] 23)) := (Below.refl _ _).alloc (Nat.le_refl _) _
  have HCE := Lib.hid (six_at w13 (.slice sa8 L1.length sc8) (.slice sa9 L2.length sc9) (.slice sa10 L3.length sc10) (.slice sa11 L4.length sc11) (.slice sa12 L5.length sc12) (.slice sa13 L6.length sc13) 23)
  have HBA := Lib.hid (below_add HB13.out hbA HB13.out.size)
  have hs := Hs13.out.below hbA (Nat.le_refl _)
  have hBW : w13.heap.size < (w13.alloc (.cells #[.slice sa8 L1.length sc8, .slice sa9 L2.length sc9, .slice sa10 L3.length sc10, .slice sa11 L4.length sc11, .slice sa12 L5.length sc12, .slice sa13 L6.length sc13] 23)).heap.size := by simp
  have HKK := Lib.hid (Hk13.out.below hbA (Nat.le_refl _))
  have HAA := Lib.hid (Ha13.out.below hbA (Nat.le_refl _))
  have HPP := Lib.hid (Hp13.out.below hbA (Nat.le_refl _))
  have hd := Hd13.out.below hbA (Nat.le_refl _)
  have hc := Hc13.out.below hbA (Nat.le_refl _)
  have hi := Hi13.out.below hbA (Nat.le_refl _)
  have hl := Hl13.out.below hbA (Nat.le_refl _)
  have hx := Hx13.out.below hbA (Nat.le_refl _)
  have hy := Hy13.out.below hbA (Nat.le_refl _)
  generalize w13.alloc (.cells #[.slice sa8 L1.length sc8, .slice sa9 L2.length sc9, .slice sa10 L3.length sc10, .slice sa11 L4.length sc11, .slice sa12 L5.length sc12, .slice sa13 L6.length sc13] 23) = W at *
  generalize w13.heap.size = BB at *
  have HLP : Hid (∀ k, k < 6 → ∃ u, W.cell? ⟨BB, 0 + k, none⟩ = some u ∧ ∀ wr, Below W.heap.size W wr → Calls Try.prog 13 #[.pointer (some s), u] wr fun e w' => e = .returned (.int .i64 0) ∧ Below wr.heap.size wr w') := Lib.hid (fun k hk => by
    refine ⟨_, HCE.out k hk, fun wr hwr => ?_⟩
    match k, hk with
    | 0, _ => exact HL1.out _ _ wr (hs.below hwr (Nat.le_refl _)) (hd.below hwr (Nat.le_refl _))
    | 1, _ => exact HL2.out _ _ wr (hs.below hwr (Nat.le_refl _)) (hc.below hwr (Nat.le_refl _))
    | 2, _ => exact HL3.out _ _ wr (hs.below hwr (Nat.le_refl _)) (hi.below hwr (Nat.le_refl _))
    | 3, _ => exact HL4.out _ _ wr (hs.below hwr (Nat.le_refl _)) (hl.below hwr (Nat.le_refl _))
    | 4, _ => exact HL5.out _ _ wr (hs.below hwr (Nat.le_refl _)) (hx.below hwr (Nat.le_refl _))
    | 5, _ => exact HL6.out _ _ wr (hs.below hwr (Nat.le_refl _)) (hy.below hwr (Nat.le_refl _)))
  clear hs hd hc hi hl hx hy hbA HCE HL1 HL2 HL3 HL4 HL5 HL6
  go_loopw [83] (fun s83 wr => ∃ k : Nat, k ≤ 6 ∧ s83 = .int .i64 k ∧ Below W.heap.size W wr) (fun s83 _ => 6 - (intOf s83).toNat)
  case atStart => exact ⟨0, Nat.zero_le _, rfl, Below.refl _ _⟩
  case round =>
    obtain ⟨k, hk, rfl, hb⟩ := hrel
    by_cases hlt : k < 6
    · obtain ⟨u, hu, hcall⟩ := HLP.out k hlt
      have c0 := (hb.cell (p := ⟨BB, 0 + k, none⟩) hBW).trans hu
      rw [Nat.zero_add] at c0
      have HCC := Lib.hid (hcall wr hb)
      have HBR := Lib.hid hb
      have hk6 : (k : Int) < 6 := by omega
      clear hu hcall hb
      go_wp2_with (go_at_call 13; refine HCC.out.mono ?_; rintro e w60 ⟨rfl, hb60⟩)
      have HB61 := Lib.hid (below_add HBR.out hb60 HBR.out.size)
      clear hb60
      go_roundw
      case rel => exact ⟨k + 1, by omega, by go_num, HB61.out⟩
      case measure => simp [intOf]; omega
    · obtain rfl : k = 6 := by omega
      have HBR := Lib.hid (below_add HBA.out hb HBA.out.size)
      have HK9 := Lib.hid (HKK.out.below hb (Nat.le_refl _))
      have HA9 := Lib.hid (HAA.out.below hb (Nat.le_refl _))
      have HP9 := Lib.hid (HPP.out.below hb (Nat.le_refl _))
      clear hb
      go_wp2_with (first
        | (go_at_call 23; with_reducible (refine (HC7.out _ _ _ HA9.out HP9.out).mono ?_); rintro e w61 ⟨u61, rfl, H61, hb61⟩; have HK10 := Lib.hid (HK9.out.below hb61 (Nat.le_refl _)); have HB61 := Lib.hid (below_add HBR.out hb61 HBR.out.size))
        | (go_at_call 30; with_reducible (refine (HL7.out _ _ _ HK10.out H61.out).mono ?_); rintro e w62 ⟨rfl, hb62⟩; have HB62 := Lib.hid (below_add HB61.out hb62 HB61.out.size))
        | (go_at_call 10; with_reducible (refine (HK.out _).mono ?_); rintro e w63 ⟨rfl, hb63⟩; have HB63 := Lib.hid (below_add HB62.out hb63 HB62.out.size)))
      go_ret
      exact ⟨rfl, HB63.out⟩
end Go.Proofs.Ytkejebjppnhidaa
