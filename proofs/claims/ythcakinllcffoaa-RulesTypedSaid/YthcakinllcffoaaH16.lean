
import Derived.Test.YthcakinllcffoaaH14
/- H16: RulesTyped -/
namespace Go.Proofs.Ythcakinllcffoaa
open Go.RowKit
set_option linter.unusedVariables false

theorem typ_from {ks : List Key} {l r : List Att} (hl : Rise l) (hr : Rise r) {x : Att} (hx : x ∈ typ ks l r) :
    (okW ks fA x.key = true ∧ getA l x.key = some x) ∨ (okW ks fB x.key = true ∧ getA r x.key = some x ∧ (okW ks fA x.key = false ∨ getA l x.key = none)) := by
  have h := getA_in (typ_rise hl hr) hx
  rw [typ_get hl hr, only_get hl, only_get hr] at h
  by_cases h1 : okW ks fA x.key = true
  · rw [if_pos h1] at h
    cases h2 : getA l x.key with
    | some y => rw [h2] at h; simp only [Option.some_or] at h; exact .inl ⟨h1, h⟩
    | none =>
      rw [h2] at h
      simp only [Option.none_or] at h
      by_cases h3 : okW ks fB x.key = true
      · rw [if_pos h3] at h; exact .inr ⟨h3, h, .inr rfl⟩
      · rw [if_neg h3] at h; cases h
  · rw [if_neg h1] at h
    simp only [Option.none_or] at h
    by_cases h3 : okW ks fB x.key = true
    · rw [if_pos h3] at h; exact .inr ⟨h3, h, .inl (by simpa using h1)⟩
    · rw [if_neg h3] at h; cases h
theorem typ_W {ks : List Key} {l r : List Att} (hl : Rise l) (hr : Rise r) (wl : ∀ a ∈ l, AttW a) (wr : ∀ a ∈ r, AttW a) : ∀ a ∈ typ ks l r, AttW a := by
  intro a ha
  rcases typ_from hl hr ha with ⟨_, h⟩ | ⟨_, h, _⟩
  · exact wl a (getA_key h).1
  · exact wr a (getA_key h).1
theorem typ_again {ks : List Key} {l r : List Att} (hl : Rise l) (hr : Rise r) : typ ks (typ ks l r) r = typ ks l r := by
  refine extA (typ_rise (typ_rise hl hr) hr) (typ_rise hl hr) fun k => ?_
  rw [typ_get (typ_rise hl hr) hr, only_get (typ_rise hl hr), typ_get hl hr, only_get hl]
  by_cases h : okW ks fA k = true
  · rw [if_pos h, if_pos h]
    cases getA l k with
    | some x => rfl
    | none => cases getA (only ks fB r) k <;> rfl
  · rw [if_neg h, if_neg h]
theorem typ_self {ks : List Key} {l : List Att} (hl : Rise l) {x : Att} (hx : x ∈ typ ks l l) : getA l x.key = some x := by
  rcases typ_from hl hl hx with ⟨_, h⟩ | ⟨_, h, _⟩ <;> exact h
/-- What a round of the law has: from the left one, or from the right one. -/
theorem round_ways {ks : List Key} {l r : List Att} (hl : Rise l) (hr : Rise r) {x : Att} (hx : x ∈ typ ks l r) :
    ∃ kk : Key, (fnd ks x.key).getD noKey = kk ∧ (fnd ks x.key).isSome = true ∧ kk.blk = false ∧
      ((kk.aft = true ∧ getV l x.key = .tuple #[vv x, .bool true]) ∨ (kk.bef = true ∧ getV r x.key = .tuple #[vv x, .bool true] ∧ (kk.aft = false ∨ getV l x.key = .tuple #[vv noAtt, .bool false]))) := by
  refine ⟨_, rfl, ?_⟩
  have hw : ∀ f, okW ks f x.key = ((fnd ks x.key).isSome && f ((fnd ks x.key).getD noKey)) := fun f => rfl
  have h := typ_from hl hr hx
  rw [hw, hw] at h
  generalize (fnd ks x.key).isSome = bb at *
  generalize (fnd ks x.key).getD noKey = kk at *
  obtain ⟨y1, y2, y3, y4, y5, y6⟩ := kk
  unfold fA fB at h
  simp only at h ⊢
  rcases h with ⟨h1, h2⟩ | ⟨h1, h2, h3⟩
  · have hb : bb = true ∧ y2 = false ∧ y4 = true := by revert h1; cases bb <;> cases y2 <;> cases y4 <;> simp
    exact ⟨hb.1, hb.2.1, .inl ⟨hb.2.2, getV_some h2⟩⟩
  · have hb : bb = true ∧ y2 = false ∧ y5 = true := by revert h1; cases bb <;> cases y2 <;> cases y5 <;> simp
    refine ⟨hb.1, hb.2.1, .inr ⟨hb.2.2, getV_some h2, ?_⟩⟩
    rcases h3 with h3 | h3
    · rw [hb.1, hb.2.1] at h3
      exact .inl (by simpa using h3)
    · exact .inr (getV_none h3)
theorem get_any_pair (l : List Att) (k : Int) : ∃ a b, getV l k = .tuple #[vv a, .bool b] := ⟨_, _, rfl⟩
theorem vv_self (a : Att) (w : World) : (binOp .eql 47 (val a.k a.n a.f a.s) (val a.k a.n a.f a.s)).run Try.prog w = .ok (.bool true) w := by
  rw [val_eql]; simp
theorem vv_same (a : Att) (w : World) : (binOp .neq 47 (val a.k a.n a.f a.s) (val a.k a.n a.f a.s)).run Try.prog w = .ok (.bool false) w := by
  have h := val_eql a.k a.n a.f a.k a.n a.f a.s a.s w
  rw [run_eql_struct] at h
  rw [run_neq_struct]
  cases hx : (Op.equalIn 10000 47 (val a.k a.n a.f a.s) (val a.k a.n a.f a.s)).run Try.prog w with
  | ok b1 w1 =>
    rw [hx] at h
    simp only [Result.andThen_ok, Result.ok.injEq, Value.bool.injEq] at h
    obtain ⟨h1, h2⟩ := h
    subst h2
    simp only [Result.andThen_ok, h1]
    simp
  | halt x w1 => rw [hx] at h; simp [Result.andThen] at h
/-- A value's variable. -/
def VBox (b : Nat) (a : Att) (w : World) : Prop :=
  w.cell? ⟨b, 0, none⟩ = some (.int .u8 a.k) ∧ w.cell? ⟨b, 1, none⟩ = some (.int .i64 a.n) ∧ w.cell? ⟨b, 2, none⟩ = some (.int .u64 a.f) ∧ w.cell? ⟨b, 3, none⟩ = some (.string a.s)
theorem VBox.box (a : Att) (w : World) : VBox w.heap.size a (w.alloc (.cells #[.int .u8 a.k, .int .i64 a.n, .int .u64 a.f, .string a.s] 47)) := by
  refine ⟨?_, ?_, ?_, ?_⟩ <;> (rw [cell_of_row _ w.heap.size _ _ _ (0, 0) (heap_alloc_new w _)]; rfl)
theorem VBox.below {b : Nat} {a : Att} {w w' : World} (h : VBox b a w) (hb : Below w.heap.size w w') : VBox b a w' := by
  obtain ⟨h0, h1, h2, h3⟩ := h
  have hl : b < w.heap.size := World.block_lt_of_cell? w _ h0
  exact ⟨(hb.cell (p := ⟨b, _, none⟩) hl).trans h0, (hb.cell (p := ⟨b, _, none⟩) hl).trans h1, (hb.cell (p := ⟨b, _, none⟩) hl).trans h2, (hb.cell (p := ⟨b, _, none⟩) hl).trans h3⟩

set_option maxRecDepth 100000 in
set_option maxHeartbeats 8000000 in
theorem typed_walk (kv v1 v2 : Value) (ks : List Key) (l r : List Att) (w : World) (hk : Krow w kv ks) (yk : ∀ k ∈ ks, KeyW k) (h1 : Arow w v1 l) (y1 : ∀ a ∈ l, AttW a) (h2 : Arow w v2 r) (y2 : ∀ a ∈ r, AttW a) :
    Calls Try.prog 6 #[kv, v1, v2] w fun e w' => e = .returned (.bool true) ∧ Below w.heap.size w w' := by
  have HK := Lib.hid (fun w => known14_any w)
  have hlk := hk.len
  have hl1 := h1.len
  have hl2 := h2.len
  obtain ⟨ka, kc, rfl⟩ := hk.shape
  obtain ⟨la, lc, rfl⟩ := h1.shape
  obtain ⟨ra, rc, rfl⟩ := h2.shape
  have HB0 := Lib.hid (Below.refl w.heap.size w)
  have Hk0 := Lib.hid hk
  have Hl0 := Lib.hid h1
  have Hr0 := Lib.hid h2
  clear hk h1 h2
  obtain ⟨g, hg⟩ : ∃ b, gt2 ks.length 0 l.length r.length = b := ⟨_, rfl⟩
  obtain ⟨b1, hb1⟩ : ∃ b, decide (Rise l) = b := ⟨_, rfl⟩
  obtain ⟨b2, hb2⟩ : ∃ b, decide (Rise r) = b := ⟨_, rfl⟩
  have HG := Lib.hid (great2_h ks.length 0 l.length r.length g hg hlk (by omega) hl1 hl2 ka kc none 0 la lc ra rc w)
  have HR1 := Lib.hid (fun v W h => riseA_h l b1 hb1 v W h)
  have HR2 := Lib.hid (fun v W h => riseA_h r b2 hb2 v W h)
  cases g
  rotate_left
  · clear hg hb1 hb2
    go_enter Try.func6, Try.ntmps6
    go_wp2_with (first
      | (go_at_call 7; (with_reducible refine (HG.out).mono ?_); rintro e w1 ⟨rfl, hb⟩; have hb1 := hb; have Hk1 := Lib.hid (Hk0.out.below hb1 (Nat.le_refl _)); have Hl1 := Lib.hid (Hl0.out.below hb1 (Nat.le_refl _)); have Hr1 := Lib.hid (Hr0.out.below hb1 (Nat.le_refl _)); have HB1 := Lib.hid (below_add HB0.out hb1 HB0.out.size); clear hb hb1)
      | (go_at_call 8; (with_reducible refine (HK.out _).mono ?_); rintro e w99 ⟨rfl, hb⟩; have HB99 := Lib.hid (below_add HB1.out hb HB1.out.size); clear hb))
    go_ret
    exact ⟨rfl, HB99.out⟩
  cases b1
  · clear hg hb1 hb2
    go_enter Try.func6, Try.ntmps6
    go_wp2_with (first
      | (go_at_call 7; (with_reducible refine (HG.out).mono ?_); rintro e w1 ⟨rfl, hb⟩; have hb1 := hb; have Hk1 := Lib.hid (Hk0.out.below hb1 (Nat.le_refl _)); have Hl1 := Lib.hid (Hl0.out.below hb1 (Nat.le_refl _)); have Hr1 := Lib.hid (Hr0.out.below hb1 (Nat.le_refl _)); have HB1 := Lib.hid (below_add HB0.out hb1 HB0.out.size); clear hb hb1)
      | (go_at_call 12; (with_reducible refine (HR1.out _ _ Hl1.out).mono ?_); rintro e w2 ⟨rfl, hb⟩; have hb2 := hb; have Hk2 := Lib.hid (Hk1.out.below hb2 (Nat.le_refl _)); have Hl2 := Lib.hid (Hl1.out.below hb2 (Nat.le_refl _)); have Hr2 := Lib.hid (Hr1.out.below hb2 (Nat.le_refl _)); have HB2 := Lib.hid (below_add HB1.out hb2 HB1.out.size); clear hb hb2)
      | (go_at_call 8; (with_reducible refine (HK.out _).mono ?_); rintro e w99 ⟨rfl, hb⟩; have HB99 := Lib.hid (below_add HB2.out hb HB2.out.size); clear hb))
    go_ret
    exact ⟨rfl, HB99.out⟩
  cases b2
  · clear hg hb1 hb2
    go_enter Try.func6, Try.ntmps6
    go_wp2_with (first
      | (go_at_call 7; (with_reducible refine (HG.out).mono ?_); rintro e w1 ⟨rfl, hb⟩; have hb1 := hb; have Hk1 := Lib.hid (Hk0.out.below hb1 (Nat.le_refl _)); have Hl1 := Lib.hid (Hl0.out.below hb1 (Nat.le_refl _)); have Hr1 := Lib.hid (Hr0.out.below hb1 (Nat.le_refl _)); have HB1 := Lib.hid (below_add HB0.out hb1 HB0.out.size); clear hb hb1)
      | (go_at_call 12; (with_reducible refine (HR1.out _ _ Hl1.out).mono ?_); rintro e w2 ⟨rfl, hb⟩; have hb2 := hb; have Hk2 := Lib.hid (Hk1.out.below hb2 (Nat.le_refl _)); have Hl2 := Lib.hid (Hl1.out.below hb2 (Nat.le_refl _)); have Hr2 := Lib.hid (Hr1.out.below hb2 (Nat.le_refl _)); have HB2 := Lib.hid (below_add HB1.out hb2 HB1.out.size); clear hb hb2)
      | (go_at_call 12; (with_reducible refine (HR2.out _ _ Hr2.out).mono ?_); rintro e w3 ⟨rfl, hb⟩; have hb3 := hb; have Hk3 := Lib.hid (Hk2.out.below hb3 (Nat.le_refl _)); have Hl3 := Lib.hid (Hl2.out.below hb3 (Nat.le_refl _)); have Hr3 := Lib.hid (Hr2.out.below hb3 (Nat.le_refl _)); have HB3 := Lib.hid (below_add HB2.out hb3 HB2.out.size); clear hb hb3)
      | (go_at_call 8; (with_reducible refine (HK.out _).mono ?_); rintro e w99 ⟨rfl, hb⟩; have HB99 := Lib.hid (below_add HB3.out hb HB3.out.size); clear hb))
    go_ret
    exact ⟨rfl, HB99.out⟩
  have rl := of_decide_eq_true hb1
  have rr := of_decide_eq_true hb2
  obtain ⟨hk64, -, hx1, hx2⟩ := gt2_no hg
  by_cases hm : mayKs ks
  rotate_left
  · have HN := Lib.hid (newno_h ks yk hm)
    clear hg rl rr hb1 hb2 hm yk
    go_enter Try.func6, Try.ntmps6
    go_wp2_with (first
      | (go_at_call 7; (with_reducible refine (HG.out).mono ?_); rintro e w1 ⟨rfl, hb⟩; have hb1 := hb; have Hk1 := Lib.hid (Hk0.out.below hb1 (Nat.le_refl _)); have Hl1 := Lib.hid (Hl0.out.below hb1 (Nat.le_refl _)); have Hr1 := Lib.hid (Hr0.out.below hb1 (Nat.le_refl _)); have HB1 := Lib.hid (below_add HB0.out hb1 HB0.out.size); clear hb hb1)
      | (go_at_call 12; (with_reducible refine (HR1.out _ _ Hl1.out).mono ?_); rintro e w2 ⟨rfl, hb⟩; have hb2 := hb; have Hk2 := Lib.hid (Hk1.out.below hb2 (Nat.le_refl _)); have Hl2 := Lib.hid (Hl1.out.below hb2 (Nat.le_refl _)); have Hr2 := Lib.hid (Hr1.out.below hb2 (Nat.le_refl _)); have HB2 := Lib.hid (below_add HB1.out hb2 HB1.out.size); clear hb hb2)
      | (go_at_call 12; (with_reducible refine (HR2.out _ _ Hr2.out).mono ?_); rintro e w3 ⟨rfl, hb⟩; have hb3 := hb; have Hk3 := Lib.hid (Hk2.out.below hb3 (Nat.le_refl _)); have Hl3 := Lib.hid (Hl2.out.below hb3 (Nat.le_refl _)); have Hr3 := Lib.hid (Hr2.out.below hb3 (Nat.le_refl _)); have HB3 := Lib.hid (below_add HB2.out hb3 HB2.out.size); clear hb hb3)
      | (go_at_call 9; (with_reducible refine (HN.out _ _ Hk3.out).mono ?_); rintro e w4 ⟨rfl, hb⟩; have hb4 := hb; have Hk4 := Lib.hid (Hk3.out.below hb4 (Nat.le_refl _)); have Hl4 := Lib.hid (Hl3.out.below hb4 (Nat.le_refl _)); have Hr4 := Lib.hid (Hr3.out.below hb4 (Nat.le_refl _)); have HB4 := Lib.hid (below_add HB3.out hb4 HB3.out.size); clear hb hb4)
      | (go_at_call 8; (with_reducible refine (HK.out _).mono ?_); rintro e w99 ⟨rfl, hb⟩; have HB99 := Lib.hid (below_add HB4.out hb HB4.out.size); clear hb))
    go_ret
    exact ⟨rfl, HB99.out⟩
  have HN := Lib.hid (new_h ks yk hm)
  have hxl := typ_len ks l r
  have hzl := typ_len ks l l
  have HW := Lib.hid (fun x hx => round_ways (ks := ks) (x := x) rl rr hx)
  have HZ := Lib.hid (fun x hx => typ_self (ks := ks) (x := x) rl hx)
  have HXW := Lib.hid (typ_W (ks := ks) rl rr y1 y2)
  have HZW := Lib.hid (typ_W (ks := ks) rl rl y1 y1)
  have HT1 := Lib.hid (fun v a b W s h h' => typed_h ks l r (typ ks l r) rfl y1 y2 (by omega) (by omega) v a b W s h h')
  have HT2 := Lib.hid (fun v a b W s h h' => typed_h ks (typ ks l r) r (typ ks l r) (typ_again rl rr) HXW.out y2 (by omega) (by omega) v a b W s h h')
  have HT3 := Lib.hid (fun v a b W s h h' => typed_h ks l l (typ ks l l) rfl y1 y1 (by omega) (by omega) v a b W s h h')
  have HT4 := Lib.hid (fun v a b W s h h' => typed_h ks [] [] [] (typ_nil ks) (by simp) (by simp) (by simp) (by simp) v a b W s h h')
  have HS1 := Lib.hid (fun v u W s h => split_h ks l (only ks fS l) rfl y1 (by omega) v u W s h)
  have HS2 := Lib.hid (fun v u W s h => split_h ks (only ks fS l) (only ks fS l) (only_only ks fS l) (fun a ha => y1 a (List.mem_filter.1 ha).1) (by have := only_le ks fS l; omega) v u W s h)
  have HM1 := Lib.hid (fun a b W h h' => rsameA_h (typ ks l r) (typ ks l r) true (by simp) a b W h h')
  have HM2 := Lib.hid (fun a b W h h' => rsameA_h (only ks fS l) (only ks fS l) true (by simp) a b W h h')
  clear hb1 hb2 hm yk rl rr y1 y2 hk64 hg
  go_enter Try.func6, Try.ntmps6
  go_wp2_with (first
    | (go_at_call 7; (with_reducible refine (HG.out).mono ?_); rintro e w1 ⟨rfl, hb⟩; have hb1 := hb; have Hk1 := Lib.hid (Hk0.out.below hb1 (Nat.le_refl _)); have Hl1 := Lib.hid (Hl0.out.below hb1 (Nat.le_refl _)); have Hr1 := Lib.hid (Hr0.out.below hb1 (Nat.le_refl _)); have HB1 := Lib.hid (below_add HB0.out hb1 HB0.out.size); clear hb hb1)
    | (go_at_call 12; (with_reducible refine (HR1.out _ _ Hl1.out).mono ?_); rintro e w2 ⟨rfl, hb⟩; have hb2 := hb; have Hk2 := Lib.hid (Hk1.out.below hb2 (Nat.le_refl _)); have Hl2 := Lib.hid (Hl1.out.below hb2 (Nat.le_refl _)); have Hr2 := Lib.hid (Hr1.out.below hb2 (Nat.le_refl _)); have HB2 := Lib.hid (below_add HB1.out hb2 HB1.out.size); clear hb hb2)
    | (go_at_call 12; (with_reducible refine (HR2.out _ _ Hr2.out).mono ?_); rintro e w3 ⟨rfl, hb⟩; have hb3 := hb; have Hk3 := Lib.hid (Hk2.out.below hb3 (Nat.le_refl _)); have Hl3 := Lib.hid (Hl2.out.below hb3 (Nat.le_refl _)); have Hr3 := Lib.hid (Hr2.out.below hb3 (Nat.le_refl _)); have HB3 := Lib.hid (below_add HB2.out hb3 HB2.out.size); clear hb hb3)
    | (go_at_call 9; (with_reducible refine (HN.out _ _ Hk3.out).mono ?_); rintro e w4 ⟨s4, rfl, hs, hb⟩; have hb4 := hb; have Hl4 := Lib.hid (Hl3.out.below hb4 (Nat.le_refl _)); have Hr4 := Lib.hid (Hr3.out.below hb4 (Nat.le_refl _)); have HB4 := Lib.hid (below_add HB3.out hb4 HB3.out.size); have Hs4 := Lib.hid (hs.out); clear hs; clear hb hb4)
    | (go_at_call 15; (with_reducible refine (HT1.out _ _ _ _ Hs4.out Hl4.out Hr4.out).mono ?_); rintro e w5 ⟨x5, rfl, ho, hb⟩; have hb5 := hb; have Hl5 := Lib.hid (Hl4.out.below hb5 (Nat.le_refl _)); have Hr5 := Lib.hid (Hr4.out.below hb5 (Nat.le_refl _)); have Hs5 := Lib.hid (Hs4.out.below hb5 (Nat.le_refl _)); have HB5 := Lib.hid (below_add HB4.out hb5 HB4.out.size); have Hx5 := Lib.hid (ho.out); obtain ⟨xa, xc, hxe⟩ := Hx5.out.shape; subst hxe; clear ho; clear hb hb5))
  generalize hxs : typ ks l r = X at *
  clear hxs
  have hXl := Hx5.out.len
  clear HG HR1 HR2 HN HT1 Hs4
  go_loopw [52] (fun s52 wr => ∃ k : Nat, k ≤ X.length ∧ s52 = .int .i64 k ∧ Hid (Below w5.heap.size w5 wr)) (fun s52 _ => X.length - (intOf s52).toNat)
  case atStart => exact ⟨0, Nat.zero_le _, rfl, Lib.hid (Below.refl _ _)⟩
  case round =>
    obtain ⟨k, hk, rfl, HR⟩ := hrel
    by_cases hlt : k < X.length
    · obtain ⟨xb, xo, rfl, -, -, -, hbl, hat⟩ := Arow.opn Hx5.out (by omega)
      have hA := (hat k hlt).below HR.out hbl
      have HA20 := Lib.hid (hat k hlt)
      clear hat
      have hwf := (HXW.out X[k] (List.getElem_mem hlt)).key
      have hways := HW.out _ (List.getElem_mem hlt)
      have HE := Lib.hid (vv_self X[k])
      have HgL := Lib.hid (get_any_pair l X[k].key)
      have HgR := Lib.hid (get_any_pair r X[k].key)
      have Hs20 := Lib.hid (Hs5.out.below HR.out (Nat.le_refl _))
      have Hl20 := Lib.hid (Hl5.out.below HR.out (Nat.le_refl _))
      have Hr20 := Lib.hid (Hr5.out.below HR.out (Nat.le_refl _))
      have HB20 := HR
      generalize X[k] = x at *
      obtain ⟨kk, hkk, hbb, hblk, hways⟩ := hways
      have HF := Lib.hid (fun v W h => find_h ks x.key hwf kk true hkk hbb v W h)
      clear hkk hbb hwf
      obtain ⟨x1, x2, x3, x4, x5⟩ := x
      obtain ⟨z1, z2, z3, z4, z5, z6⟩ := kk
      obtain ⟨c0, c1, c2, c3, c4⟩ := hA
      simp only at c0 c1 c2 c3 c4 hblk hways HF HE HgL HgR
      subst hblk
      rcases hways with ⟨rfl, hgl⟩ | ⟨rfl, hgr, rfl | hgl⟩
      · have HGL := Lib.hid (fun u W h => rget_h l x1 ⟨x1, x2, x3, x4, x5⟩ true hgl u W h)
        obtain ⟨p, pb, hp⟩ := HgR.out
        have HGR := Lib.hid (fun u W h => rget_h r x1 p pb hp u W h)
        obtain ⟨p1, p2, p3, p4, p5⟩ := p
        clear hgl hp HgL HgR
        go_wp2_with (first
          | (go_at_call 27; (with_reducible refine (HF.out _ _ Hs20.out).mono ?_); rintro e w21 ⟨rfl, hb⟩; have hb21 := hb.alloc hb.size (.cells #[.int .i64 z1, .bool false, .int .u8 z3, .bool true, .bool z5, .int .i64 z6] 59); have Hs21 := Lib.hid (Hs20.out.below hb21 (Nat.le_refl _)); have Hl21 := Lib.hid (Hl20.out.below hb21 (Nat.le_refl _)); have Hr21 := Lib.hid (Hr20.out.below hb21 (Nat.le_refl _)); have HB21 := Lib.hid (below_add HB20.out hb21 HB20.out.size); have hkb := KBox.box ⟨z1, false, z3, true, z5, z6⟩ w21 59; obtain ⟨d0, d1, d2, d3, d4⟩ := HA20.out.below HB21.out hbl; simp only at d0 d1 d2 d3 d4; clear hb hb21)
          | (go_at_call 25; (with_reducible refine (HGL.out _ _ Hl21.out).mono ?_); rintro e w22 ⟨rfl, hb⟩; have hb22 := hb.alloc hb.size (.cells #[.int .u8 x2, .int .i64 x3, .int .u64 x4, .string x5] 47); have Hs22 := Lib.hid (Hs21.out.below hb22 (Nat.le_refl _)); have Hl22 := Lib.hid (Hl21.out.below hb22 (Nat.le_refl _)); have Hr22 := Lib.hid (Hr21.out.below hb22 (Nat.le_refl _)); have HB22 := Lib.hid (below_add HB21.out hb22 HB21.out.size); have hkb := hkb.below hb22 (by simp); have hvb := VBox.box ⟨x1, x2, x3, x4, x5⟩ w22; obtain ⟨e0, e1, e2, e3, e4⟩ := HA20.out.below HB22.out hbl; simp only at e0 e1 e2 e3 e4; clear hb hb22)
          | (go_at_call 25; (with_reducible refine (HGR.out _ _ Hr22.out).mono ?_); rintro e w23 ⟨rfl, hb⟩; have hb23 := hb.alloc hb.size (.cells #[.int .u8 p2, .int .i64 p3, .int .u64 p4, .string p5] 47); have Hs23 := Lib.hid (Hs22.out.below hb23 (Nat.le_refl _)); have Hl23 := Lib.hid (Hl22.out.below hb23 (Nat.le_refl _)); have Hr23 := Lib.hid (Hr22.out.below hb23 (Nat.le_refl _)); have HB23 := Lib.hid (below_add HB22.out hb23 HB22.out.size); obtain ⟨k0, k1, k2, k3, k4, k5⟩ := hkb.below hb23 (World.block_lt_of_cell? _ _ hkb.1); obtain ⟨v0, v1, v2, v3⟩ := hvb.below hb23; simp only at k0 k1 k2 k3 k4 k5 v0 v1 v2 v3; clear hkb hvb; obtain ⟨f0, f1, f2, f3, f4⟩ := HA20.out.below HB23.out hbl; simp only at f0 f1 f2 f3 f4; clear hb hb23))
        have he := HE.out
        go_quiet (fail)
        go_wp2_with fail
        go_roundw
        case rel => exact ⟨k + 1, by omega, by go_num, Lib.hid (blw_drewN (HB23.out) _)⟩
        case measure => simp [intOf]; omega
      · obtain ⟨p, pb, hp⟩ := HgL.out
        have HGL := Lib.hid (fun u W h => rget_h l x1 p pb hp u W h)
        have HGR := Lib.hid (fun u W h => rget_h r x1 ⟨x1, x2, x3, x4, x5⟩ true hgr u W h)
        obtain ⟨p1, p2, p3, p4, p5⟩ := p
        clear hgr hp HgL HgR
        cases pb
        · go_wp2_with (first
            | (go_at_call 27; (with_reducible refine (HF.out _ _ Hs20.out).mono ?_); rintro e w21 ⟨rfl, hb⟩; have hb21 := hb.alloc hb.size (.cells #[.int .i64 z1, .bool false, .int .u8 z3, .bool false, .bool true, .int .i64 z6] 59); have Hs21 := Lib.hid (Hs20.out.below hb21 (Nat.le_refl _)); have Hl21 := Lib.hid (Hl20.out.below hb21 (Nat.le_refl _)); have Hr21 := Lib.hid (Hr20.out.below hb21 (Nat.le_refl _)); have HB21 := Lib.hid (below_add HB20.out hb21 HB20.out.size); have hkb := KBox.box ⟨z1, false, z3, false, true, z6⟩ w21 59; obtain ⟨d0, d1, d2, d3, d4⟩ := HA20.out.below HB21.out hbl; simp only at d0 d1 d2 d3 d4; clear hb hb21)
            | (go_at_call 25; (with_reducible refine (HGL.out _ _ Hl21.out).mono ?_); rintro e w22 ⟨rfl, hb⟩; have hb22 := hb.alloc hb.size (.cells #[.int .u8 p2, .int .i64 p3, .int .u64 p4, .string p5] 47); have Hs22 := Lib.hid (Hs21.out.below hb22 (Nat.le_refl _)); have Hl22 := Lib.hid (Hl21.out.below hb22 (Nat.le_refl _)); have Hr22 := Lib.hid (Hr21.out.below hb22 (Nat.le_refl _)); have HB22 := Lib.hid (below_add HB21.out hb22 HB21.out.size); have hkb := hkb.below hb22 (by simp); have hvb := VBox.box ⟨x1, p2, p3, p4, p5⟩ w22; obtain ⟨e0, e1, e2, e3, e4⟩ := HA20.out.below HB22.out hbl; simp only at e0 e1 e2 e3 e4; clear hb hb22)
            | (go_at_call 25; (with_reducible refine (HGR.out _ _ Hr22.out).mono ?_); rintro e w23 ⟨rfl, hb⟩; have hb23 := hb.alloc hb.size (.cells #[.int .u8 x2, .int .i64 x3, .int .u64 x4, .string x5] 47); have Hs23 := Lib.hid (Hs22.out.below hb23 (Nat.le_refl _)); have Hl23 := Lib.hid (Hl22.out.below hb23 (Nat.le_refl _)); have Hr23 := Lib.hid (Hr22.out.below hb23 (Nat.le_refl _)); have HB23 := Lib.hid (below_add HB22.out hb23 HB22.out.size); obtain ⟨k0, k1, k2, k3, k4, k5⟩ := hkb.below hb23 (World.block_lt_of_cell? _ _ hkb.1); obtain ⟨v0, v1, v2, v3⟩ := hvb.below hb23; simp only at k0 k1 k2 k3 k4 k5 v0 v1 v2 v3; clear hkb hvb; obtain ⟨f0, f1, f2, f3, f4⟩ := HA20.out.below HB23.out hbl; simp only at f0 f1 f2 f3 f4; clear hb hb23))
          have he := HE.out
          go_quiet (fail)
          go_wp2_with fail
          go_roundw
          case rel => exact ⟨k + 1, by omega, by go_num, Lib.hid (blw_drewN (HB23.out) _)⟩
          case measure => simp [intOf]; omega
        · go_wp2_with (first
            | (go_at_call 27; (with_reducible refine (HF.out _ _ Hs20.out).mono ?_); rintro e w21 ⟨rfl, hb⟩; have hb21 := hb.alloc hb.size (.cells #[.int .i64 z1, .bool false, .int .u8 z3, .bool false, .bool true, .int .i64 z6] 59); have Hs21 := Lib.hid (Hs20.out.below hb21 (Nat.le_refl _)); have Hl21 := Lib.hid (Hl20.out.below hb21 (Nat.le_refl _)); have Hr21 := Lib.hid (Hr20.out.below hb21 (Nat.le_refl _)); have HB21 := Lib.hid (below_add HB20.out hb21 HB20.out.size); have hkb := KBox.box ⟨z1, false, z3, false, true, z6⟩ w21 59; obtain ⟨d0, d1, d2, d3, d4⟩ := HA20.out.below HB21.out hbl; simp only at d0 d1 d2 d3 d4; clear hb hb21)
            | (go_at_call 25; (with_reducible refine (HGL.out _ _ Hl21.out).mono ?_); rintro e w22 ⟨rfl, hb⟩; have hb22 := hb.alloc hb.size (.cells #[.int .u8 p2, .int .i64 p3, .int .u64 p4, .string p5] 47); have Hs22 := Lib.hid (Hs21.out.below hb22 (Nat.le_refl _)); have Hl22 := Lib.hid (Hl21.out.below hb22 (Nat.le_refl _)); have Hr22 := Lib.hid (Hr21.out.below hb22 (Nat.le_refl _)); have HB22 := Lib.hid (below_add HB21.out hb22 HB21.out.size); have hkb := hkb.below hb22 (by simp); have hvb := VBox.box ⟨x1, p2, p3, p4, p5⟩ w22; obtain ⟨e0, e1, e2, e3, e4⟩ := HA20.out.below HB22.out hbl; simp only at e0 e1 e2 e3 e4; clear hb hb22)
            | (go_at_call 25; (with_reducible refine (HGR.out _ _ Hr22.out).mono ?_); rintro e w23 ⟨rfl, hb⟩; have hb23 := hb.alloc hb.size (.cells #[.int .u8 x2, .int .i64 x3, .int .u64 x4, .string x5] 47); have Hs23 := Lib.hid (Hs22.out.below hb23 (Nat.le_refl _)); have Hl23 := Lib.hid (Hl22.out.below hb23 (Nat.le_refl _)); have Hr23 := Lib.hid (Hr22.out.below hb23 (Nat.le_refl _)); have HB23 := Lib.hid (below_add HB22.out hb23 HB22.out.size); obtain ⟨k0, k1, k2, k3, k4, k5⟩ := hkb.below hb23 (World.block_lt_of_cell? _ _ hkb.1); obtain ⟨v0, v1, v2, v3⟩ := hvb.below hb23; simp only at k0 k1 k2 k3 k4 k5 v0 v1 v2 v3; clear hkb hvb; obtain ⟨f0, f1, f2, f3, f4⟩ := HA20.out.below HB23.out hbl; simp only at f0 f1 f2 f3 f4; clear hb hb23))
          have he := HE.out
          go_quiet (fail)
          go_wp2_with fail
          go_roundw
          case rel => exact ⟨k + 1, by omega, by go_num, Lib.hid (blw_drewN (HB23.out) _)⟩
          case measure => simp [intOf]; omega
      · have HGL := Lib.hid (fun u W h => rget_h l x1 noAtt false hgl u W h)
        have HGR := Lib.hid (fun u W h => rget_h r x1 ⟨x1, x2, x3, x4, x5⟩ true hgr u W h)
        clear hgr hgl HgL HgR
        go_wp2_with (first
          | (go_at_call 27; (with_reducible refine (HF.out _ _ Hs20.out).mono ?_); rintro e w21 ⟨rfl, hb⟩; have hb21 := hb.alloc hb.size (.cells #[.int .i64 z1, .bool false, .int .u8 z3, .bool z4, .bool true, .int .i64 z6] 59); have Hs21 := Lib.hid (Hs20.out.below hb21 (Nat.le_refl _)); have Hl21 := Lib.hid (Hl20.out.below hb21 (Nat.le_refl _)); have Hr21 := Lib.hid (Hr20.out.below hb21 (Nat.le_refl _)); have HB21 := Lib.hid (below_add HB20.out hb21 HB20.out.size); have hkb := KBox.box ⟨z1, false, z3, z4, true, z6⟩ w21 59; obtain ⟨d0, d1, d2, d3, d4⟩ := HA20.out.below HB21.out hbl; simp only at d0 d1 d2 d3 d4; clear hb hb21)
          | (go_at_call 25; (with_reducible refine (HGL.out _ _ Hl21.out).mono ?_); rintro e w22 ⟨rfl, hb⟩; have hb22 := hb.alloc hb.size (.cells #[.int .u8 0, .int .i64 0, .int .u64 0, .string ⟨#[]⟩] 47); have Hs22 := Lib.hid (Hs21.out.below hb22 (Nat.le_refl _)); have Hl22 := Lib.hid (Hl21.out.below hb22 (Nat.le_refl _)); have Hr22 := Lib.hid (Hr21.out.below hb22 (Nat.le_refl _)); have HB22 := Lib.hid (below_add HB21.out hb22 HB21.out.size); have hkb := hkb.below hb22 (by simp); have hvb := VBox.box ⟨x1, 0, 0, 0, ⟨#[]⟩⟩ w22; obtain ⟨e0, e1, e2, e3, e4⟩ := HA20.out.below HB22.out hbl; simp only at e0 e1 e2 e3 e4; clear hb hb22)
          | (go_at_call 25; (with_reducible refine (HGR.out _ _ Hr22.out).mono ?_); rintro e w23 ⟨rfl, hb⟩; have hb23 := hb.alloc hb.size (.cells #[.int .u8 x2, .int .i64 x3, .int .u64 x4, .string x5] 47); have Hs23 := Lib.hid (Hs22.out.below hb23 (Nat.le_refl _)); have Hl23 := Lib.hid (Hl22.out.below hb23 (Nat.le_refl _)); have Hr23 := Lib.hid (Hr22.out.below hb23 (Nat.le_refl _)); have HB23 := Lib.hid (below_add HB22.out hb23 HB22.out.size); obtain ⟨k0, k1, k2, k3, k4, k5⟩ := hkb.below hb23 (World.block_lt_of_cell? _ _ hkb.1); obtain ⟨v0, v1, v2, v3⟩ := hvb.below hb23; simp only at k0 k1 k2 k3 k4 k5 v0 v1 v2 v3; clear hkb hvb; obtain ⟨f0, f1, f2, f3, f4⟩ := HA20.out.below HB23.out hbl; simp only at f0 f1 f2 f3 f4; clear hb hb23))
        have he := HE.out
        go_quiet (fail)
        go_wp2_with fail
        go_roundw
        case rel => exact ⟨k + 1, by omega, by go_num, Lib.hid (blw_drewN (HB23.out) _)⟩
        case measure => simp [intOf]; omega
    · obtain rfl : k = X.length := by omega
      have Hs30 := Lib.hid (Hs5.out.below HR.out (Nat.le_refl _))
      have Hx30 := Lib.hid (Hx5.out.below HR.out (Nat.le_refl _))
      have Hl30 := Lib.hid (Hl5.out.below HR.out (Nat.le_refl _))
      have Hr30 := Lib.hid (Hr5.out.below HR.out (Nat.le_refl _))
      have HB30 := Lib.hid (below_add HB5.out HR.out HB5.out.size)
      clear HR
      go_wp2_with (first
        | (go_at_call 15; (with_reducible refine (HT2.out _ _ _ _ Hs30.out Hx30.out Hr30.out).mono ?_); rintro e w31 ⟨y31, rfl, ho, hb⟩; have hb31 := hb; have Hs31 := Lib.hid (Hs30.out.below hb31 (Nat.le_refl _)); have Hx31 := Lib.hid (Hx30.out.below hb31 (Nat.le_refl _)); have Hl31 := Lib.hid (Hl30.out.below hb31 (Nat.le_refl _)); have Hr31 := Lib.hid (Hr30.out.below hb31 (Nat.le_refl _)); have HB31 := Lib.hid (below_add HB30.out hb31 HB30.out.size); have Hy31 := Lib.hid (ho.out); clear ho; clear hb hb31)
        | (go_at_call 15; (with_reducible refine (HT3.out _ _ _ _ Hs31.out Hl31.out Hl31.out).mono ?_); rintro e w32 ⟨z32, rfl, ho, hb⟩; have hb32 := hb; have Hs32 := Lib.hid (Hs31.out.below hb32 (Nat.le_refl _)); have Hx32 := Lib.hid (Hx31.out.below hb32 (Nat.le_refl _)); have Hl32 := Lib.hid (Hl31.out.below hb32 (Nat.le_refl _)); have Hr32 := Lib.hid (Hr31.out.below hb32 (Nat.le_refl _)); have Hy32 := Lib.hid (Hy31.out.below hb32 (Nat.le_refl _)); have HB32 := Lib.hid (below_add HB31.out hb32 HB31.out.size); have Hz32 := Lib.hid (ho.out); obtain ⟨za, zc, hze⟩ := Hz32.out.shape; subst hze; clear ho; clear hb hb32))
      generalize hzs : typ ks l l = Z at *
      clear hzs
      have hZl := Hz32.out.len
      go_loopw [143] (fun s143 wr => ∃ k : Nat, k ≤ Z.length ∧ s143 = .int .i64 k ∧ Hid (Below w32.heap.size w32 wr)) (fun s143 _ => Z.length - (intOf s143).toNat)
      case atStart => exact ⟨0, Nat.zero_le _, rfl, Lib.hid (Below.refl _ _)⟩
      case round =>
        obtain ⟨k, hk, rfl, HR⟩ := hrel
        by_cases hlt : k < Z.length
        · obtain ⟨zb, zo, rfl, -, -, -, hbl, hat⟩ := Arow.opn Hz32.out (by omega)
          have hA := (hat k hlt).below HR.out hbl
          have HA60 := Lib.hid (hat k hlt)
          clear hat
          have hgl := getV_some (HZ.out _ (List.getElem_mem hlt))
          have HE := Lib.hid (vv_same Z[k])
          have Hl60 := Lib.hid (Hl32.out.below HR.out (Nat.le_refl _))
          have HB60 := HR
          generalize Z[k] = x at *
          have HGL := Lib.hid (fun u W h => rget_h l x.key x true hgl u W h)
          clear hgl
          obtain ⟨x1, x2, x3, x4, x5⟩ := x
          obtain ⟨c0, c1, c2, c3, c4⟩ := hA
          simp only at c0 c1 c2 c3 c4 HE HGL
          go_wp2_with (first
            | (go_at_call 25; (with_reducible refine (HGL.out _ _ Hl60.out).mono ?_); rintro e w61 ⟨rfl, hb⟩; have hb61 := hb.alloc hb.size (.cells #[.int .u8 x2, .int .i64 x3, .int .u64 x4, .string x5] 47); have Hl61 := Lib.hid (Hl60.out.below hb61 (Nat.le_refl _)); have HB61 := Lib.hid (below_add HB60.out hb61 HB60.out.size); obtain ⟨f0, f1, f2, f3, f4⟩ := HA60.out.below HB61.out hbl; simp only at f0 f1 f2 f3 f4; clear hb hb61))
          have he := HE.out
          go_quiet (fail)
          go_wp2_with fail
          go_roundw
          case rel => exact ⟨k + 1, by omega, by go_num, Lib.hid (blw_drewN (HB61.out) _)⟩
          case measure => simp [intOf]; omega
        · obtain rfl : k = Z.length := by omega
          have Hs70 := Lib.hid (Hs32.out.below HR.out (Nat.le_refl _))
          have Hx70 := Lib.hid (Hx32.out.below HR.out (Nat.le_refl _))
          have Hy70 := Lib.hid (Hy32.out.below HR.out (Nat.le_refl _))
          have Hl70 := Lib.hid (Hl32.out.below HR.out (Nat.le_refl _))
          have HB70 := Lib.hid (below_add HB32.out HR.out HB32.out.size)
          clear HR
          go_wp2_with (first
            | (go_at_call 20; (with_reducible refine (HM1.out _ _ _ Hx70.out Hy70.out).mono ?_); rintro e w71 ⟨rfl, hb⟩; have hb71 := hb; have Hs71 := Lib.hid (Hs70.out.below hb71 (Nat.le_refl _)); have Hx71 := Lib.hid (Hx70.out.below hb71 (Nat.le_refl _)); have Hy71 := Lib.hid (Hy70.out.below hb71 (Nat.le_refl _)); have Hl71 := Lib.hid (Hl70.out.below hb71 (Nat.le_refl _)); have HB71 := Lib.hid (below_add HB70.out hb71 HB70.out.size); clear hb hb71)
            | (go_at_call 15; (with_reducible refine (HT4.out _ _ _ _ Hs71.out (Row.nil _) (Row.nil _)).mono ?_); rintro e w72 ⟨y72, rfl, ho, hb⟩; have hb72 := hb; have Hs72 := Lib.hid (Hs71.out.below hb72 (Nat.le_refl _)); have Hx72 := Lib.hid (Hx71.out.below hb72 (Nat.le_refl _)); have Hy72 := Lib.hid (Hy71.out.below hb72 (Nat.le_refl _)); have Hl72 := Lib.hid (Hl71.out.below hb72 (Nat.le_refl _)); have HB72 := Lib.hid (below_add HB71.out hb72 HB71.out.size); have Hn72 := Lib.hid (ho.out); obtain ⟨na, nc, hne⟩ := Hn72.out.shape; subst hne; clear ho; clear hb hb72)
            | (go_at_call 14; (with_reducible refine (HS1.out _ _ _ Hs72.out Hl72.out).mono ?_); rintro e w73 ⟨y73, rfl, ho, hb⟩; have hb73 := hb; have Hs73 := Lib.hid (Hs72.out.below hb73 (Nat.le_refl _)); have Hl73 := Lib.hid (Hl72.out.below hb73 (Nat.le_refl _)); have HB73 := Lib.hid (below_add HB72.out hb73 HB72.out.size); have Ha73 := Lib.hid (ho.out); clear ho; clear hb hb73)
            | (go_at_call 14; (with_reducible refine (HS2.out _ _ _ Hs73.out Ha73.out).mono ?_); rintro e w74 ⟨y74, rfl, ho, hb⟩; have hb74 := hb; have Hs74 := Lib.hid (Hs73.out.below hb74 (Nat.le_refl _)); have Hl74 := Lib.hid (Hl73.out.below hb74 (Nat.le_refl _)); have Ha74 := Lib.hid (Ha73.out.below hb74 (Nat.le_refl _)); have HB74 := Lib.hid (below_add HB73.out hb74 HB73.out.size); have Hb74 := Lib.hid (ho.out); clear ho; clear hb hb74)
            | (go_at_call 14; (with_reducible refine (HS1.out _ _ _ Hs74.out Hl74.out).mono ?_); rintro e w75 ⟨y75, rfl, ho, hb⟩; have hb75 := hb; have Hs75 := Lib.hid (Hs74.out.below hb75 (Nat.le_refl _)); have Hl75 := Lib.hid (Hl74.out.below hb75 (Nat.le_refl _)); have Ha75 := Lib.hid (Ha74.out.below hb75 (Nat.le_refl _)); have Hb75 := Lib.hid (Hb74.out.below hb75 (Nat.le_refl _)); have HB75 := Lib.hid (below_add HB74.out hb75 HB74.out.size); have Hc75 := Lib.hid (ho.out); clear ho; clear hb hb75)
            | (go_at_call 20; (with_reducible refine (HM2.out _ _ _ Hb75.out Hc75.out).mono ?_); rintro e w76 ⟨rfl, hb⟩; have hb76 := hb; have Hs76 := Lib.hid (Hs75.out.below hb76 (Nat.le_refl _)); have Hl76 := Lib.hid (Hl75.out.below hb76 (Nat.le_refl _)); have Ha76 := Lib.hid (Ha75.out.below hb76 (Nat.le_refl _)); have Hb76 := Lib.hid (Hb75.out.below hb76 (Nat.le_refl _)); have Hc76 := Lib.hid (Hc75.out.below hb76 (Nat.le_refl _)); have HB76 := Lib.hid (below_add HB75.out hb76 HB75.out.size); clear hb hb76)
            | (go_at_call 8; (with_reducible refine (HK.out _).mono ?_); rintro e w99 ⟨rfl, hb⟩; have HB99 := Lib.hid (below_add HB76.out hb HB76.out.size); clear hb))
          go_ret
          exact ⟨rfl, HB99.out⟩
end Go.Proofs.Ythcakinllcffoaa
