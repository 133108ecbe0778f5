
import Derived.Test.YthcakinllcffoaaH14
/- H17: RulesOne -/
namespace Go.Proofs.Ythcakinllcffoaa
open Go.RowKit
set_option linter.unusedVariables false

theorem compl_from {ks : List Key} (hg : Good ks) {p : List Chg} (hp : RiseC p) {c : Chg} (hc : c ∈ compl ks p) : c ∈ p ∨ ∃ k ∈ ks, c = goneC k.id := by
  have h := getC_in (compl_rise hp) hc
  rw [compl_get hg hp] at h
  cases h1 : getC p c.key with
  | some d => rw [h1] at h; rw [Option.some_or] at h; rw [← Option.some.inj h]; exact .inl (getC_key h1).1
  | none =>
    rw [h1] at h
    simp only [Option.none_or] at h
    split at h
    · rename_i hm
      have e := Option.some.inj h
      cases hf : fnd ks c.key with
      | none => rw [grpN_none hf] at hm; exact absurd hm setsG_zero
      | some k =>
        obtain ⟨m, hid⟩ := fnd_some hf
        exact .inr ⟨k, m, by rw [hid]; exact e.symm⟩
    · cases h
theorem compl_W {ks : List Key} (hg : Good ks) (yk : ∀ k ∈ ks, KeyW k) {p : List Chg} (hp : RiseC p) (yp : ∀ c ∈ p, ChgW c) : ∀ c ∈ compl ks p, ChgW c := by
  intro c hc
  rcases compl_from hg hp hc with h | ⟨k, hk, rfl⟩
  · exact yp c h
  · exact goneC_W (yk k hk).id _ (by simp)
theorem group_h (ks : List Key) (id : Int) (hwf : (Lit.int .i64 id).wf = true) (xs : List Int) (h : grpOf ks id = xs) (v : Value) (W : World) (hs : Sch W v ks) :
    Calls Try.prog 26 #[v, .int .i64 id] W fun e w' => ∃ u', e = .returned u' ∧ Hid (Ints .i64 w' u' xs) ∧ Below W.heap.size W w' := by
  rw [← h]
  exact (group_any v ks id W hs hwf).mono fun e w' ⟨u, he, ho, hb⟩ => ⟨u, he, Lib.hid (Ints.of_owns ho).1, hb⟩
theorem chg_same (c : Chg) (w : World) : (binOp .neq 47 (val c.k c.n c.f c.s) (val c.k c.n c.f c.s)).run Try.prog w = .ok (.bool false) w := by
  have h := val_eql c.k c.n c.f c.k c.n c.f c.s c.s w
  rw [run_eql_struct] at h
  rw [run_neq_struct]
  cases hx : (Op.equalIn 10000 47 (val c.k c.n c.f c.s) (val c.k c.n c.f c.s)).run Try.prog w with
  | ok b1 w1 =>
    rw [hx] at h
    simp only [Result.andThen_ok, Result.ok.injEq, Value.bool.injEq] at h
    obtain ⟨h1, h2⟩ := h
    subst h2
    simp only [Result.andThen_ok, h1]
    simp
  | halt x w1 => rw [hx] at h; simp [Result.andThen] at h

set_option maxRecDepth 100000 in
set_option maxHeartbeats 8000000 in
theorem one_walk (kv v1 v2 : Value) (ks : List Key) (p : List Chg) (xs : List Att) (w : World) (hk : Krow w kv ks) (yk : ∀ k ∈ ks, KeyW k) (h1 : Crow w v1 p) (y1 : ∀ c ∈ p, ChgW c) (h2 : Arow w v2 xs) :
    Calls Try.prog 4 #[kv, v1, v2] w fun e w' => e = .returned (.bool true) ∧ Below w.heap.size w w' := by
  have HK := Lib.hid (fun w => known14_any w)
  have hlk := hk.len
  have hl1 := h1.len
  have hl2 := h2.len
  obtain ⟨ka, kc, rfl⟩ := hk.shape
  obtain ⟨pa, pc, rfl⟩ := h1.shape
  obtain ⟨xa, xc, rfl⟩ := h2.shape
  have HB0 := Lib.hid (Below.refl w.heap.size w)
  have Hk0 := Lib.hid hk
  have Hp0 := Lib.hid h1
  have Hx0 := Lib.hid h2
  clear hk h1 h2
  obtain ⟨g, hg⟩ : ∃ b, gt1 ks.length p.length xs.length = b := ⟨_, rfl⟩
  have HG := Lib.hid (great1_h ks.length p.length xs.length g hg hlk hl1 hl2 ka kc pa pc xa xc w)
  cases g
  rotate_left
  · clear hg
    go_enter Try.func4, Try.ntmps4
    go_wp2_with (first
      | (go_at_call 7; (with_reducible refine (HG.out).mono ?_); rintro e w1 ⟨rfl, hb⟩; have hb1 := hb; have Hk1 := Lib.hid (Hk0.out.below hb1 (Nat.le_refl _)); have Hp1 := Lib.hid (Hp0.out.below hb1 (Nat.le_refl _)); have Hx1 := Lib.hid (Hx0.out.below hb1 (Nat.le_refl _)); have HB1 := Lib.hid (below_add HB0.out hb1 HB0.out.size); clear hb hb1)
      | (go_at_call 8; (with_reducible refine (HK.out _).mono ?_); rintro e w99 ⟨rfl, hb⟩; have HB99 := Lib.hid (below_add HB1.out hb HB1.out.size); clear hb))
    go_ret
    exact ⟨rfl, HB99.out⟩
  obtain ⟨hk64, hp100, hx100⟩ := gt1_no hg
  by_cases hm : mayKs ks
  rotate_left
  · have HN := Lib.hid (newno_h ks yk hm)
    clear hg hm yk
    go_enter Try.func4, Try.ntmps4
    go_wp2_with (first
      | (go_at_call 7; (with_reducible refine (HG.out).mono ?_); rintro e w1 ⟨rfl, hb⟩; have hb1 := hb; have Hk1 := Lib.hid (Hk0.out.below hb1 (Nat.le_refl _)); have Hp1 := Lib.hid (Hp0.out.below hb1 (Nat.le_refl _)); have Hx1 := Lib.hid (Hx0.out.below hb1 (Nat.le_refl _)); have HB1 := Lib.hid (below_add HB0.out hb1 HB0.out.size); clear hb hb1)
      | (go_at_call 9; (with_reducible refine (HN.out _ _ Hk1.out).mono ?_); rintro e w2 ⟨rfl, hb⟩; have hb2 := hb; have Hk2 := Lib.hid (Hk1.out.below hb2 (Nat.le_refl _)); have Hp2 := Lib.hid (Hp1.out.below hb2 (Nat.le_refl _)); have Hx2 := Lib.hid (Hx1.out.below hb2 (Nat.le_refl _)); have HB2 := Lib.hid (below_add HB1.out hb2 HB1.out.size); clear hb hb2)
      | (go_at_call 8; (with_reducible refine (HK.out _).mono ?_); rintro e w99 ⟨rfl, hb⟩; have HB99 := Lib.hid (below_add HB2.out hb HB2.out.size); clear hb))
    go_ret
    exact ⟨rfl, HB99.out⟩
  have HN := Lib.hid (new_h ks yk hm)
  have hG := hm.2
  obtain ⟨m, hmay⟩ : ∃ m, may6 ks p = m := ⟨_, rfl⟩
  have HY := Lib.hid (fun v u W h h' => may6_h ks p m hmay y1 v u W h h')
  clear hg hm
  by_cases hm0 : m = 0
  rotate_left
  · have em : (m != 0) = true := by simpa using hm0
    clear hmay hm0
    go_enter Try.func4, Try.ntmps4
    go_wp2_with (first
      | (go_at_call 7; (with_reducible refine (HG.out).mono ?_); rintro e w1 ⟨rfl, hb⟩; have hb1 := hb; have Hk1 := Lib.hid (Hk0.out.below hb1 (Nat.le_refl _)); have Hp1 := Lib.hid (Hp0.out.below hb1 (Nat.le_refl _)); have Hx1 := Lib.hid (Hx0.out.below hb1 (Nat.le_refl _)); have HB1 := Lib.hid (below_add HB0.out hb1 HB0.out.size); clear hb hb1)
      | (go_at_call 9; (with_reducible refine (HN.out _ _ Hk1.out).mono ?_); rintro e w2 ⟨s2, rfl, hs, hb⟩; have hb2 := hb; have Hp2 := Lib.hid (Hp1.out.below hb2 (Nat.le_refl _)); have Hx2 := Lib.hid (Hx1.out.below hb2 (Nat.le_refl _)); have HB2 := Lib.hid (below_add HB1.out hb2 HB1.out.size); have Hs2 := Lib.hid (hs.out); clear hs; clear hb hb2)
      | (go_at_call 23; (with_reducible refine (HY.out _ _ _ Hs2.out Hp2.out).mono ?_); rintro e w3 ⟨rfl, hb⟩; have hb3 := hb; have Hp3 := Lib.hid (Hp2.out.below hb3 (Nat.le_refl _)); have Hx3 := Lib.hid (Hx2.out.below hb3 (Nat.le_refl _)); have Hs3 := Lib.hid (Hs2.out.below hb3 (Nat.le_refl _)); have HB3 := Lib.hid (below_add HB2.out hb3 HB2.out.size); clear hb hb3)
      | (go_at_call 8; (with_reducible refine (HK.out _).mono ?_); rintro e w99 ⟨rfl, hb⟩; have HB99 := Lib.hid (below_add HB3.out hb HB3.out.size); clear hb))
    go_ret
    exact ⟨rfl, HB99.out⟩
  subst hm0
  obtain ⟨r, hr⟩ : ∃ b, decide (Rise xs) = b := ⟨_, rfl⟩
  have HR := Lib.hid (fun v W h => riseA_h xs r hr v W h)
  have hrp := (ok_of hk64 hmay).1
  cases r
  · clear hr hmay
    go_enter Try.func4, Try.ntmps4
    go_wp2_with (first
      | (go_at_call 7; (with_reducible refine (HG.out).mono ?_); rintro e w1 ⟨rfl, hb⟩; have hb1 := hb; have Hk1 := Lib.hid (Hk0.out.below hb1 (Nat.le_refl _)); have Hp1 := Lib.hid (Hp0.out.below hb1 (Nat.le_refl _)); have Hx1 := Lib.hid (Hx0.out.below hb1 (Nat.le_refl _)); have HB1 := Lib.hid (below_add HB0.out hb1 HB0.out.size); clear hb hb1)
      | (go_at_call 9; (with_reducible refine (HN.out _ _ Hk1.out).mono ?_); rintro e w2 ⟨s2, rfl, hs, hb⟩; have hb2 := hb; have Hp2 := Lib.hid (Hp1.out.below hb2 (Nat.le_refl _)); have Hx2 := Lib.hid (Hx1.out.below hb2 (Nat.le_refl _)); have HB2 := Lib.hid (below_add HB1.out hb2 HB1.out.size); have Hs2 := Lib.hid (hs.out); clear hs; clear hb hb2)
      | (go_at_call 23; (with_reducible refine (HY.out _ _ _ Hs2.out Hp2.out).mono ?_); rintro e w3 ⟨rfl, hb⟩; have hb3 := hb; have Hp3 := Lib.hid (Hp2.out.below hb3 (Nat.le_refl _)); have Hx3 := Lib.hid (Hx2.out.below hb3 (Nat.le_refl _)); have Hs3 := Lib.hid (Hs2.out.below hb3 (Nat.le_refl _)); have HB3 := Lib.hid (below_add HB2.out hb3 HB2.out.size); clear hb hb3)
      | (go_at_call 12; (with_reducible refine (HR.out _ _ Hx3.out).mono ?_); rintro e w4 ⟨rfl, hb⟩; have hb4 := hb; have Hp4 := Lib.hid (Hp3.out.below hb4 (Nat.le_refl _)); have Hx4 := Lib.hid (Hx3.out.below hb4 (Nat.le_refl _)); have Hs4 := Lib.hid (Hs3.out.below hb4 (Nat.le_refl _)); have HB4 := Lib.hid (below_add HB3.out hb4 HB3.out.size); clear hb hb4)
      | (go_at_call 8; (with_reducible refine (HK.out _).mono ?_); rintro e w99 ⟨rfl, hb⟩; have HB99 := Lib.hid (below_add HB4.out hb HB4.out.size); clear hb))
    go_ret
    exact ⟨rfl, HB99.out⟩
  have hr := of_decide_eq_true hr
  by_cases hn : (setsG ks p).Nodup
  rotate_left
  · have HC := Lib.hid (fun v u W h h' => complete_h ks p [] 3 (cE_no hn).1 (cE_no hn).2 y1 (by omega) v u W h h')
    clear hr hmay hn hG
    go_enter Try.func4, Try.ntmps4
    go_wp2_with (first
      | (go_at_call 7; (with_reducible refine (HG.out).mono ?_); rintro e w1 ⟨rfl, hb⟩; have hb1 := hb; have Hk1 := Lib.hid (Hk0.out.below hb1 (Nat.le_refl _)); have Hp1 := Lib.hid (Hp0.out.below hb1 (Nat.le_refl _)); have Hx1 := Lib.hid (Hx0.out.below hb1 (Nat.le_refl _)); have HB1 := Lib.hid (below_add HB0.out hb1 HB0.out.size); clear hb hb1)
      | (go_at_call 9; (with_reducible refine (HN.out _ _ Hk1.out).mono ?_); rintro e w2 ⟨s2, rfl, hs, hb⟩; have hb2 := hb; have Hp2 := Lib.hid (Hp1.out.below hb2 (Nat.le_refl _)); have Hx2 := Lib.hid (Hx1.out.below hb2 (Nat.le_refl _)); have HB2 := Lib.hid (below_add HB1.out hb2 HB1.out.size); have Hs2 := Lib.hid (hs.out); clear hs; clear hb hb2)
      | (go_at_call 23; (with_reducible refine (HY.out _ _ _ Hs2.out Hp2.out).mono ?_); rintro e w3 ⟨rfl, hb⟩; have hb3 := hb; have Hp3 := Lib.hid (Hp2.out.below hb3 (Nat.le_refl _)); have Hx3 := Lib.hid (Hx2.out.below hb3 (Nat.le_refl _)); have Hs3 := Lib.hid (Hs2.out.below hb3 (Nat.le_refl _)); have HB3 := Lib.hid (below_add HB2.out hb3 HB2.out.size); clear hb hb3)
      | (go_at_call 12; (with_reducible refine (HR.out _ _ Hx3.out).mono ?_); rintro e w4 ⟨rfl, hb⟩; have hb4 := hb; have Hp4 := Lib.hid (Hp3.out.below hb4 (Nat.le_refl _)); have Hx4 := Lib.hid (Hx3.out.below hb4 (Nat.le_refl _)); have Hs4 := Lib.hid (Hs3.out.below hb4 (Nat.le_refl _)); have HB4 := Lib.hid (below_add HB3.out hb4 HB3.out.size); clear hb hb4)
      | (go_at_call 13; (with_reducible refine (HC.out _ _ _ Hs4.out Hp4.out).mono ?_); rintro e w5 ⟨u5, rfl, ho, hb⟩; have hb5 := hb; have Hp5 := Lib.hid (Hp4.out.below hb5 (Nat.le_refl _)); have Hx5 := Lib.hid (Hx4.out.below hb5 (Nat.le_refl _)); have Hs5 := Lib.hid (Hs4.out.below hb5 (Nat.le_refl _)); have HB5 := Lib.hid (below_add HB4.out hb5 HB4.out.size); have Hy5 := Lib.hid (own6_row ho.out); obtain ⟨ya, yc, hye⟩ := Hy5.out.shape; subst hye; clear ho; clear hb hb5)
      | (go_at_call 8; (with_reducible refine (HK.out _).mono ?_); rintro e w99 ⟨rfl, hb⟩; have HB99 := Lib.hid (below_add HB5.out hb HB5.out.size); clear hb))
    go_ret
    exact ⟨rfl, HB99.out⟩
  have hcl := compl_len hG p
  have hcw := compl_W hG yk hrp y1
  have HC := Lib.hid (fun v u W h h' => complete_h ks p (compl ks p) 0 (cE_yes hn).1 (cE_yes hn).2 y1 (by omega) v u W h h')
  have hn2 := cE_yes (compl_nodup hG hrp hn)
  have HC2 := Lib.hid (fun v u W h h' => complete_h ks (compl ks p) (compl ks p) 0 hn2.1 (by rw [hn2.2]; exact compl_twice hG hrp) hcw (by omega) v u W h h')
  have HY2 := Lib.hid (fun v u W h h' => may6_h ks (compl ks p) 0 (compl_may hk64 hG hmay) hcw v u W h h')
  have HAS := Lib.hid (fun c hc h => compl_has (ks := ks) hG hrp hr (c := c) hc h)
  have HNO := Lib.hid (fun c hc h o ho => compl_none (ks := ks) hG hrp hn hr (c := c) hc h (o := o) ho)
  have HGL := Lib.hid (fun id => grpOf_len hk64 hG id)
  have HYP := Lib.hid y1
  have HA := Lib.hid (fun a b W h h' => app_h xs (compl ks p) (app xs (compl ks p)) rfl (by omega) a b W h h')
  generalize app xs (compl ks p) = got at *
  generalize compl ks p = X at *
  have HM := Lib.hid (fun a b W h h' => rsameC6_h X X true (by simp) a b W h h')
  clear hcl hcw hn2 hr hmay hn hrp hG y1 yk
  go_enter Try.func4, Try.ntmps4
  go_wp2_with (first
    | (go_at_call 7; (with_reducible refine (HG.out).mono ?_); rintro e w1 ⟨rfl, hb⟩; have hb1 := hb; have Hk1 := Lib.hid (Hk0.out.below hb1 (Nat.le_refl _)); have Hp1 := Lib.hid (Hp0.out.below hb1 (Nat.le_refl _)); have Hx1 := Lib.hid (Hx0.out.below hb1 (Nat.le_refl _)); have HB1 := Lib.hid (below_add HB0.out hb1 HB0.out.size); clear hb hb1)
    | (go_at_call 9; (with_reducible refine (HN.out _ _ Hk1.out).mono ?_); rintro e w2 ⟨s2, rfl, hs, hb⟩; have hb2 := hb; have Hp2 := Lib.hid (Hp1.out.below hb2 (Nat.le_refl _)); have Hx2 := Lib.hid (Hx1.out.below hb2 (Nat.le_refl _)); have HB2 := Lib.hid (below_add HB1.out hb2 HB1.out.size); have Hs2 := Lib.hid (hs.out); clear hs; clear hb hb2)
    | (go_at_call 23; (with_reducible refine (HY.out _ _ _ Hs2.out Hp2.out).mono ?_); rintro e w3 ⟨rfl, hb⟩; have hb3 := hb; have Hp3 := Lib.hid (Hp2.out.below hb3 (Nat.le_refl _)); have Hx3 := Lib.hid (Hx2.out.below hb3 (Nat.le_refl _)); have Hs3 := Lib.hid (Hs2.out.below hb3 (Nat.le_refl _)); have HB3 := Lib.hid (below_add HB2.out hb3 HB2.out.size); clear hb hb3)
    | (go_at_call 12; (with_reducible refine (HR.out _ _ Hx3.out).mono ?_); rintro e w4 ⟨rfl, hb⟩; have hb4 := hb; have Hp4 := Lib.hid (Hp3.out.below hb4 (Nat.le_refl _)); have Hx4 := Lib.hid (Hx3.out.below hb4 (Nat.le_refl _)); have Hs4 := Lib.hid (Hs3.out.below hb4 (Nat.le_refl _)); have HB4 := Lib.hid (below_add HB3.out hb4 HB3.out.size); clear hb hb4)
    | (go_at_call 13; (with_reducible refine (HC.out _ _ _ Hs4.out Hp4.out).mono ?_); rintro e w5 ⟨u5, rfl, ho, hb⟩; have hb5 := hb; have Hp5 := Lib.hid (Hp4.out.below hb5 (Nat.le_refl _)); have Hx5 := Lib.hid (Hx4.out.below hb5 (Nat.le_refl _)); have Hs5 := Lib.hid (Hs4.out.below hb5 (Nat.le_refl _)); have HB5 := Lib.hid (below_add HB4.out hb5 HB4.out.size); have Hy5 := Lib.hid (own6_row ho.out); obtain ⟨ya, yc, hye⟩ := Hy5.out.shape; subst hye; clear ho; clear hb hb5)
    | (go_at_call 13; (with_reducible refine (HC2.out _ _ _ Hs5.out Hy5.out).mono ?_); rintro e w6 ⟨u6, rfl, ho, hb⟩; have hb6 := hb; have Hp6 := Lib.hid (Hp5.out.below hb6 (Nat.le_refl _)); have Hx6 := Lib.hid (Hx5.out.below hb6 (Nat.le_refl _)); have Hs6 := Lib.hid (Hs5.out.below hb6 (Nat.le_refl _)); have Hy6 := Lib.hid (Hy5.out.below hb6 (Nat.le_refl _)); have HB6 := Lib.hid (below_add HB5.out hb6 HB5.out.size); have Hz6 := Lib.hid (own6_row ho.out); clear ho; clear hb hb6)
    | (go_at_call 19; (with_reducible refine (HM.out _ _ _ Hy6.out Hz6.out).mono ?_); rintro e w7 ⟨rfl, hb⟩; have hb7 := hb; have Hp7 := Lib.hid (Hp6.out.below hb7 (Nat.le_refl _)); have Hx7 := Lib.hid (Hx6.out.below hb7 (Nat.le_refl _)); have Hs7 := Lib.hid (Hs6.out.below hb7 (Nat.le_refl _)); have Hy7 := Lib.hid (Hy6.out.below hb7 (Nat.le_refl _)); have Hz7 := Lib.hid (Hz6.out.below hb7 (Nat.le_refl _)); have HB7 := Lib.hid (below_add HB6.out hb7 HB6.out.size); clear hb hb7)
    | (go_at_call 23; (with_reducible refine (HY2.out _ _ _ Hs7.out Hy7.out).mono ?_); rintro e w8 ⟨rfl, hb⟩; have hb8 := hb; have Hp8 := Lib.hid (Hp7.out.below hb8 (Nat.le_refl _)); have Hx8 := Lib.hid (Hx7.out.below hb8 (Nat.le_refl _)); have Hs8 := Lib.hid (Hs7.out.below hb8 (Nat.le_refl _)); have Hy8 := Lib.hid (Hy7.out.below hb8 (Nat.le_refl _)); have Hz8 := Lib.hid (Hz7.out.below hb8 (Nat.le_refl _)); have HB8 := Lib.hid (below_add HB7.out hb8 HB7.out.size); clear hb hb8)
    | (go_at_call 24; (with_reducible refine (HA.out _ _ _ Hx8.out Hy8.out).mono ?_); rintro e w9 ⟨u9, rfl, ha, hb⟩; have hb9 := hb; have Hp9 := Lib.hid (Hp8.out.below hb9 (Nat.le_refl _)); have Hx9 := Lib.hid (Hx8.out.below hb9 (Nat.le_refl _)); have Hs9 := Lib.hid (Hs8.out.below hb9 (Nat.le_refl _)); have Hy9 := Lib.hid (Hy8.out.below hb9 (Nat.le_refl _)); have Hz9 := Lib.hid (Hz8.out.below hb9 (Nat.le_refl _)); have HB9 := Lib.hid (below_add HB8.out hb9 HB8.out.size); have Hn9 := Lib.hid (ha.out); clear ha; clear hb hb9))
  clear HG HN HY HR HC HC2 HY2 HA HM
  go_loopw [94] (fun s94 wr => ∃ k : Nat, k ≤ p.length ∧ s94 = .int .i64 k ∧ Hid (Below w9.heap.size w9 wr)) (fun s94 _ => p.length - (intOf s94).toNat)
  case atStart => exact ⟨0, Nat.zero_le _, rfl, Lib.hid (Below.refl _ _)⟩
  case round =>
    obtain ⟨k, hk, rfl, HR⟩ := hrel
    by_cases hlt : k < p.length
    · obtain ⟨pb, po, rfl, -, -, -, hbl, hat⟩ := Crow.opn Hp9.out (by omega)
      have hA := (hat k hlt).below HR.out hbl
      have HA20 := Lib.hid (hat k hlt)
      clear hat
      have hwf := (HYP.out p[k] (List.getElem_mem hlt)).key
      have HAk := Lib.hid (HAS.out p[k] (List.getElem_mem hlt))
      have HNk := Lib.hid (HNO.out p[k] (List.getElem_mem hlt))
      have HGk := Lib.hid (HGL.out p[k].key)
      have HE := Lib.hid (chg_same p[k])
      have Hs20 := Lib.hid (Hs9.out.below HR.out (Nat.le_refl _))
      have Hn20 := Lib.hid (Hn9.out.below HR.out (Nat.le_refl _))
      have HB20 := HR
      generalize p[k] = c at *
      have HGR := Lib.hid (fun v W h => group_h ks c.key hwf (grpOf ks c.key) rfl v W h)
      generalize grpOf ks c.key = os at *
      obtain ⟨x1, x0, x2, x3, x4, x5⟩ := c
      obtain ⟨c0, c1, c2, c3, c4, c5⟩ := hA
      simp only at c0 c1 c2 c3 c4 c5 HE HAk HNk HGk HGR
      clear hwf
      cases x0
      rotate_left
      · go_wp2_with fail
        go_roundw
        case rel => exact ⟨k + 1, by omega, by go_num, HR⟩
        case measure => simp [intOf]; omega
      have HGE := Lib.hid (fun u W h => rget_h got x1 ⟨x1, x2, x3, x4, x5⟩ true (getV_some (HAk.out rfl)) u W h)
      have HNO2 := Lib.hid (HNk.out rfl)
      clear HAk HNk
      go_wp2_with (first
        | (go_at_call 25; (with_reducible refine (HGE.out _ _ Hn20.out).mono ?_); rintro e w21 ⟨rfl, hb⟩; have hb21 := hb.alloc hb.size (.cells #[.int .u8 x2, .int .i64 x3, .int .u64 x4, .string x5] 47); have Hs21 := Lib.hid (Hs20.out.below hb21 (Nat.le_refl _)); have Hn21 := Lib.hid (Hn20.out.below hb21 (Nat.le_refl _)); have HB21 := Lib.hid (below_add HB20.out hb21 HB20.out.size); obtain ⟨f0, f1, f2, f3, f4, f5⟩ := HA20.out.below HB21.out hbl; simp only at f0 f1 f2 f3 f4 f5; clear hb hb21))
      have he := HE.out
      go_quiet (fail)
      generalize nq = q0 at *
      have Hs22 := Lib.hid (Hs21.out.below (blw_drewN (Below.refl _ _) q0) (Nat.le_refl _))
      have Hn22 := Lib.hid (Hn21.out.below (blw_drewN (Below.refl _ _) q0) (Nat.le_refl _))
      have HB22 := Lib.hid (blw_drewN HB21.out q0)
      obtain ⟨f0, f1, f2, f3, f4, f5⟩ := HA20.out.below HB22.out hbl
      simp only at f0
      go_wp2_with (first
        | (go_at_call 26; (with_reducible refine (HGR.out _ _ Hs22.out).mono ?_); rintro e w23 ⟨u23, rfl, hi, hb⟩; have hb23 := hb; have Hs23 := Lib.hid (Hs22.out.below hb23 (Nat.le_refl _)); have Hn23 := Lib.hid (Hn22.out.below hb23 (Nat.le_refl _)); have HB23 := Lib.hid (below_add HB22.out hb23 HB22.out.size); have HI := hi; obtain ⟨ia, ic, hie⟩ := HI.out.shape; subst hie; clear hi; clear hb hb23))
      have hil := HI.out.len
      go_loopw [132] (fun s132 wr => ∃ j : Nat, j ≤ os.length ∧ s132 = .int .i64 j ∧ Hid (Below w23.heap.size w23 wr)) (fun s132 _ => os.length - (intOf s132).toNat)
      case atStart => exact ⟨0, Nat.zero_le _, rfl, Lib.hid (Below.refl _ _)⟩
      case round =>
        obtain ⟨j, hj, rfl, HJ⟩ := hrel
        by_cases hjt : j < os.length
        · obtain ⟨ib, io, rfl, -, -, -, hic⟩ := HI.out.opened (by omega)
          have hx := (HJ.out.cell (p := ⟨ib, io + j, none⟩) (World.block_lt_of_cell? _ _ (hic j hjt))).trans (hic j hjt)
          have hmem : os.getD j 0 ∈ os := by
            have e : os.getD j 0 = os[j] := by simp [List.getD, hjt]
            rw [e]; exact List.getElem_mem hjt
          have HGO := Lib.hid (fun u W h => rget_h got (os.getD j 0) noAtt false (getV_none (HNO2.out _ hmem)) u W h)
          have Hn30 := Lib.hid (Hn23.out.below HJ.out (Nat.le_refl _))
          have HB30 := HJ
          generalize os.getD j 0 = oo at *
          clear hmem hic
          go_wp2_with (first
            | (go_at_call 25; (with_reducible refine (HGO.out _ _ Hn30.out).mono ?_); rintro e w31 ⟨rfl, hb⟩; have hb31 := hb.alloc hb.size (.cells #[.int .u8 0, .int .i64 0, .int .u64 0, .string ⟨#[]⟩] 47); have Hn31 := Lib.hid (Hn30.out.below hb31 (Nat.le_refl _)); have HB31 := Lib.hid (below_add HB30.out hb31 HB30.out.size); clear hb hb31))
          go_roundw
          case rel => exact ⟨j + 1, by omega, by go_num, Lib.hid HB31.out⟩
          case measure => simp [intOf]; omega
        · obtain rfl : j = os.length := by omega
          have HBZ := Lib.hid (below_add HB23.out HJ.out HB23.out.size)
          go_wp2_with fail
          go_roundw
          case rel => exact ⟨k + 1, by omega, by go_num, HBZ⟩
          case measure => simp [intOf]; omega
    · obtain rfl : k = p.length := by omega
      have HBE := Lib.hid (below_add HB9.out HR.out HB9.out.size)
      go_wp2_with (go_at_call 8; (with_reducible refine (HK.out _).mono ?_); rintro e w99 ⟨rfl, hb⟩; have HB99 := Lib.hid (below_add HBE.out hb HBE.out.size); clear hb)
      go_ret
      exact ⟨rfl, HB99.out⟩
end Go.Proofs.Ythcakinllcffoaa
