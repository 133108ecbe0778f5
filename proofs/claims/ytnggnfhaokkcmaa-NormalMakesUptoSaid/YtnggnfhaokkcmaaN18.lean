
import Derived.Test.YtnggnfhaokkcmaaN17
/- N18: Is; a maker's calls -/
namespace Go.Proofs.Ytnggnfhaokkcmaa
open Go.RowKit
set_option linter.unusedVariables false
set_option maxRecDepth 100000

theorem nr_one (l : List Opn) : NR (l.take 1).reverse := by
  cases l with
  | nil => trivial
  | cons x r => trivial
theorem nr_step {l : List Opn} {k : Nat} (h : k + 1 < l.length) (hn : NR (l.take (k + 1)).reverse) (hb : ¬ Bad l[k] l[k + 1]) : NR (l.take (k + 1 + 1)).reverse := by
  have e1 : l.take (k + 1 + 1) = l.take (k + 1) ++ [l[k + 1]] := List.take_succ_eq_append_getElem h
  have e2 : l.take (k + 1) = l.take k ++ [l[k]] := List.take_succ_eq_append_getElem (by omega)
  rw [e1, List.reverse_append, List.reverse_singleton, List.singleton_append]
  rw [e2, List.reverse_append, List.reverse_singleton, List.singleton_append] at hn ⊢
  exact ⟨hb, hn⟩
theorem nr_pre {a b : List Opn} (h : NR (a ++ b).reverse) : NR a.reverse := by
  have : ∀ r : List Opn, NR (r ++ a.reverse) → NR a.reverse := fun r => by
    induction r with
    | nil => intro h; exact h
    | cons x r ih => intro h; exact ih h.tail
  rw [List.reverse_append] at h
  exact this _ h
theorem nr_bad {l : List Opn} {k : Nat} (h : k + 1 < l.length) (hb : Bad l[k] l[k + 1]) : ¬ NR l.reverse := fun hn => by
  have e : l = l.take (k + 1 + 1) ++ l.drop (k + 1 + 1) := (List.take_append_drop _ _).symm
  rw [e] at hn
  have h2 := nr_pre hn
  have e1 : l.take (k + 1 + 1) = l.take (k + 1) ++ [l[k + 1]] := List.take_succ_eq_append_getElem h
  have e2 : l.take (k + 1) = l.take k ++ [l[k]] := List.take_succ_eq_append_getElem (by omega)
  rw [e1, List.reverse_append, List.reverse_singleton, List.singleton_append, e2, List.reverse_append, List.reverse_singleton, List.singleton_append] at h2
  exact h2.1 hb
/-- What Is answers. -/
def IsP (xs : List Oz) (e : Ending) : Prop := ∃ b, e = .returned (.bool b) ∧ (b = true ↔ normal (xs.map Oz.o))
set_option maxHeartbeats 4000000 in
theorem is_any (u : Value) (xs : List Oz) (w : World) (hx : Orow w u xs) :
    Calls Try.prog 12 #[u] w fun e w' => IsP xs e ∧ Below w.heap.size w w' := by
  have hl := hx.len
  obtain ⟨a1, cap1, rfl⟩ := hx.shape
  have HSE := Lib.hid (settled_any a1 cap1 xs w hx)
  have hle := settleZ_len xs
  by_cases hli : lastI xs = true
  · rw [if_pos hli] at hle
    have h0 : 0 < xs.length := by
      cases xs with
      | nil => simp [lastI] at hli
      | cons _ _ => simp
    have HN := Lib.hid (show ¬ normal (xs.map Oz.o) from fun h => (lastI_ends xs).1 hli h.2)
    rw [hle] at HSE
    obtain ⟨n, hn⟩ : ∃ n, xs.length = n + 1 := ⟨xs.length - 1, by omega⟩
    rw [hn, Nat.add_sub_cancel] at HSE
    rw [hn]
    have q1 : ((n : Int) < (n : Int) + 1) := by omega
    clear hli hle hx h0
    go_enter Try.func12, Try.ntmps12
    go_wp2_with (go_at_call 27; refine (HSE.out).mono ?_; rintro e w1 ⟨rfl, rfl⟩)
    go_ret
    exact ⟨⟨false, rfl, by simp only [Bool.false_eq_true, false_iff]; exact HN.out⟩, Below.refl _ _⟩
  rw [if_neg hli] at hle
  have HEN := Lib.hid (show Ends (xs.map Oz.o).reverse from Classical.not_not.1 (fun h => hli ((lastI_ends xs).2 h)))
  rw [hle] at HSE
  have HX := Lib.hid hx
  have HHAT := Lib.hid (fun (h0 : 0 < xs.length) => hx.row.ats h0)
  clear hli hx
  go_enter Try.func12, Try.ntmps12
  go_wp2_with (go_at_call 27; refine (HSE.out).mono ?_; rintro e w1 ⟨rfl, rfl⟩)
  go_loopw [3] (fun i wr => ∃ k : Nat, i = .int .i64 ((k : Int) + 1) ∧ (k + 1 ≤ xs.length ∨ k = 0) ∧ Hid (NR ((xs.map Oz.o).take (k + 1)).reverse ∧ Below w1.heap.size w1 wr)) (fun i _ => xs.length + 1 - (intOf i).toNat)
  case atStart => exact ⟨0, rfl, .inr rfl, Lib.hid ⟨nr_one _, Below.refl _ _⟩⟩
  case round =>
    obtain ⟨k, rfl, hk, HP⟩ := hrel
    by_cases hlt : k + 1 < xs.length
    · obtain ⟨b1, o1, rfl, -, -, -, hbl, hat⟩ := HHAT.out (by omega)
      have hC0 := (hat k (by omega)).below HP.out.2
      have hD0 := (hat (k + 1) hlt).below HP.out.2
      have e1 : ((xs.map Oz.o)[k]'(by simp; omega)) = xs[k].o := by simp
      have e2 : ((xs.map Oz.o)[k + 1]'(by simp; omega)) = xs[k + 1].o := by simp
      have HST := Lib.hid (fun (hb : ¬ Bad xs[k].o xs[k + 1].o) => nr_step (l := xs.map Oz.o) (by simp; omega) HP.out.1 (by rw [e1, e2]; exact hb))
      have HBD := Lib.hid (fun (hb : Bad xs[k].o xs[k + 1].o) (h : normal (xs.map Oz.o)) => nr_bad (l := xs.map Oz.o) (k := k) (by simp; omega) (by rw [e1, e2]; exact hb) h.1)
      have KY := Lib.hid (HX.out.ok _ (List.getElem_mem (show k < xs.length by omega)))
      have KZ := Lib.hid (HX.out.ok _ (List.getElem_mem hlt))
      have HBR := Lib.hid HP.out.2
      have HLT := Lib.hid hlt
      clear HP hat e1 e2 HHAT
      generalize xs[k] = y at *
      generalize xs[k + 1] = z at *
      have HAL := Lib.hid (fun b (h : decide (Alike y.o z.o) = b) W (hb : Below w1.heap.size w1 W) => alike_any b y z W (KY.out.below hb) (KZ.out.below hb) h)
      have HB1 := Lib.hid (below_add HBR.out ((kbelow_two wr (.cells y.cs 34) (.cells z.cs 34)).drew) HBR.out.size)
      have HB2 := Lib.hid (below_add HBR.out ((kbelow_two wr (.cells z.cs 34) (.cells y.cs 34)).drew) HBR.out.size)
      have HX1 := Lib.hid (((OAt.new wr y 34).below (kbelow_one _ (.cells z.cs 34))).below (Below.refl _ _).drew)
      have HY1 := Lib.hid ((OAt.new (wr.alloc (.cells y.cs 34)) z 34).below (Below.refl _ _).drew)
      have HY2 := Lib.hid (((OAt.new wr z 34).below (kbelow_one _ (.cells y.cs 34))).below (Below.refl _ _).drew)
      have HX2 := Lib.hid ((OAt.new (wr.alloc (.cells z.cs 34)) y 34).below (Below.refl _ _).drew)
      rw [World.size_alloc] at HY1 HX2
      have i1 : (k : Int) < (xs.length : Int) := by omega
      have i2 : (0 : Int) ≤ (k : Int) := by omega
      have i3 : (k : Int) + 1 < (xs.length : Int) := by omega
      have i4 : (0 : Int) ≤ (k : Int) + 1 := by omega
      have e3 : IntKind.i64.wrap (k : Int) = (k : Int) := by rw [IntKind.wrap_i64]; omega
      have e4 : ((k : Int) + 1).toNat = k + 1 := by omega
      clear KY KZ hk hlt
      go_wp2
      obtain ⟨c0, c1, c2, c3, c4⟩ := hC0
      obtain ⟨d0, d1, d2, d3, d4⟩ := hD0
      have n0 := World.new_ne _ _ c0
      have n1 := World.new_ne _ _ d0
      go_region_held3 (fun w' => OAt b1 (o1 + k * 5) y w' ∧ OAt b1 (o1 + (k + 1) * 5) z w') ((repeat' apply And.intro) <;> go_keep) (fail)
      · have FX := HX1
        have FY := HY1
        have FB := HB1
        clear HX1 HX2 HY1 HY2 HB1 HB2 c0 c1 c2 c3 c4 d0 d1 d2 d3 d4 n0 n1
        obtain ⟨c0, c1, c2, c3, c4⟩ := FX.out
        obtain ⟨d0, d1, d2, d3, d4⟩ := FY.out
        by_cases ha : Alike y.o z.o
        · have HN := Lib.hid (HBD.out (.inl ha))
          have HA := Lib.hid (HAL.out true (decide_eq_true ha))
          clear ha HAL
          go_wp2_with (go_at_call 28; refine (HA.out _ FB.out).mono ?_; rintro e w2 ⟨rfl, hb⟩; have GB := Lib.hid (below_add FB.out hb FB.out.size); obtain ⟨c0, c1, c2, c3, c4⟩ := FX.out.below hb; obtain ⟨d0, d1, d2, d3, d4⟩ := FY.out.below hb; clear hb)
          go_ret
          exact ⟨⟨false, rfl, by simp only [Bool.false_eq_true, false_iff]; exact HN.out⟩, GB.out⟩
        have HA := Lib.hid (HAL.out false (decide_eq_false ha))
        clear HAL
        by_cases h3 : y.k = 3
        rotate_left
        · have q3 : (y.k == 3) = false := by simpa using h3
          have HN := Lib.hid (HST.out (fun hb => hb.elim ha (fun h => h3 h.1)))
          clear ha h3
          go_wp2_with (go_at_call 28; refine (HA.out _ FB.out).mono ?_; rintro e w2 ⟨rfl, hb⟩; have GB := Lib.hid (below_add FB.out hb FB.out.size); obtain ⟨c0, c1, c2, c3, c4⟩ := FX.out.below hb; obtain ⟨d0, d1, d2, d3, d4⟩ := FY.out.below hb; clear hb)
          go_roundw
          case rel => exact ⟨k + 1, by go_num, .inl (by have := HLT.out; omega), Lib.hid ⟨HN.out, GB.out⟩⟩
          case measure => have := HLT.out; simp [intOf]; omega
        have q3 : (y.k == 3) = true := by simpa using h3
        by_cases h2 : z.k = 2
        · have q2 : (z.k == 2) = true := by simpa using h2
          have HN := Lib.hid (HBD.out (.inr ⟨h3, h2⟩))
          clear ha h3 h2
          go_wp2_with (go_at_call 28; refine (HA.out _ FB.out).mono ?_; rintro e w2 ⟨rfl, hb⟩; have GB := Lib.hid (below_add FB.out hb FB.out.size); obtain ⟨c0, c1, c2, c3, c4⟩ := FX.out.below hb; obtain ⟨d0, d1, d2, d3, d4⟩ := FY.out.below hb; clear hb)
          go_ret
          exact ⟨⟨false, rfl, by simp only [Bool.false_eq_true, false_iff]; exact HN.out⟩, GB.out⟩
        · have q2 : (z.k == 2) = false := by simpa using h2
          have HN := Lib.hid (HST.out (fun hb => hb.elim ha (fun h => h2 h.2)))
          clear ha h3 h2
          go_wp2_with (go_at_call 28; refine (HA.out _ FB.out).mono ?_; rintro e w2 ⟨rfl, hb⟩; have GB := Lib.hid (below_add FB.out hb FB.out.size); obtain ⟨c0, c1, c2, c3, c4⟩ := FX.out.below hb; obtain ⟨d0, d1, d2, d3, d4⟩ := FY.out.below hb; clear hb)
          go_roundw
          case rel => exact ⟨k + 1, by go_num, .inl (by have := HLT.out; omega), Lib.hid ⟨HN.out, GB.out⟩⟩
          case measure => have := HLT.out; simp [intOf]; omega
      · have FX := HX2
        have FY := HY2
        have FB := HB2
        clear HX1 HX2 HY1 HY2 HB1 HB2 c0 c1 c2 c3 c4 d0 d1 d2 d3 d4 n0 n1
        obtain ⟨c0, c1, c2, c3, c4⟩ := FX.out
        obtain ⟨d0, d1, d2, d3, d4⟩ := FY.out
        by_cases ha : Alike y.o z.o
        · have HN := Lib.hid (HBD.out (.inl ha))
          have HA := Lib.hid (HAL.out true (decide_eq_true ha))
          clear ha HAL
          go_wp2_with (go_at_call 28; refine (HA.out _ FB.out).mono ?_; rintro e w2 ⟨rfl, hb⟩; have GB := Lib.hid (below_add FB.out hb FB.out.size); obtain ⟨c0, c1, c2, c3, c4⟩ := FX.out.below hb; obtain ⟨d0, d1, d2, d3, d4⟩ := FY.out.below hb; clear hb)
          go_ret
          exact ⟨⟨false, rfl, by simp only [Bool.false_eq_true, false_iff]; exact HN.out⟩, GB.out⟩
        have HA := Lib.hid (HAL.out false (decide_eq_false ha))
        clear HAL
        by_cases h3 : y.k = 3
        rotate_left
        · have q3 : (y.k == 3) = false := by simpa using h3
          have HN := Lib.hid (HST.out (fun hb => hb.elim ha (fun h => h3 h.1)))
          clear ha h3
          go_wp2_with (go_at_call 28; refine (HA.out _ FB.out).mono ?_; rintro e w2 ⟨rfl, hb⟩; have GB := Lib.hid (below_add FB.out hb FB.out.size); obtain ⟨c0, c1, c2, c3, c4⟩ := FX.out.below hb; obtain ⟨d0, d1, d2, d3, d4⟩ := FY.out.below hb; clear hb)
          go_roundw
          case rel => exact ⟨k + 1, by go_num, .inl (by have := HLT.out; omega), Lib.hid ⟨HN.out, GB.out⟩⟩
          case measure => have := HLT.out; simp [intOf]; omega
        have q3 : (y.k == 3) = true := by simpa using h3
        by_cases h2 : z.k = 2
        · have q2 : (z.k == 2) = true := by simpa using h2
          have HN := Lib.hid (HBD.out (.inr ⟨h3, h2⟩))
          clear ha h3 h2
          go_wp2_with (go_at_call 28; refine (HA.out _ FB.out).mono ?_; rintro e w2 ⟨rfl, hb⟩; have GB := Lib.hid (below_add FB.out hb FB.out.size); obtain ⟨c0, c1, c2, c3, c4⟩ := FX.out.below hb; obtain ⟨d0, d1, d2, d3, d4⟩ := FY.out.below hb; clear hb)
          go_ret
          exact ⟨⟨false, rfl, by simp only [Bool.false_eq_true, false_iff]; exact HN.out⟩, GB.out⟩
        · have q2 : (z.k == 2) = false := by simpa using h2
          have HN := Lib.hid (HST.out (fun hb => hb.elim ha (fun h => h2 h.2)))
          clear ha h3 h2
          go_wp2_with (go_at_call 28; refine (HA.out _ FB.out).mono ?_; rintro e w2 ⟨rfl, hb⟩; have GB := Lib.hid (below_add FB.out hb FB.out.size); obtain ⟨c0, c1, c2, c3, c4⟩ := FX.out.below hb; obtain ⟨d0, d1, d2, d3, d4⟩ := FY.out.below hb; clear hb)
          go_roundw
          case rel => exact ⟨k + 1, by go_num, .inl (by have := HLT.out; omega), Lib.hid ⟨HN.out, GB.out⟩⟩
          case measure => have := HLT.out; simp [intOf]; omega
    · have HE := Lib.hid (show normal (xs.map Oz.o) from ⟨by have := HP.out.1; rwa [List.take_of_length_le (by rw [List.length_map]; omega)] at this, HEN.out⟩)
      have HBB := Lib.hid HP.out.2
      have i3 : ¬ ((k : Int) + 1 < (xs.length : Int)) := by omega
      clear HP
      go_wp2
      go_ret
      exact ⟨⟨true, rfl, by simp only [true_iff]; exact HE.out⟩, HBB.out⟩

/-! ### a maker's calls -/
/-- A maker at bm that was told what reads R (the last op first); all that it has lies in blocks of F. -/
structure MS (F : Nat → Prop) (bm : Nat) (R : List Opn) (w : World) : Prop where
  ex : ∃ va n vc zs, Cb bm 45 #[.slice va n vc] w ∧ Oown F w (.slice va n vc) zs ∧ zs.length = n ∧ (zs.map Oz.o).reverse = R
  nb : ¬ F bm
theorem MS.lt {F : Nat → Prop} {bm : Nat} {R : List Opn} {w : World} (h : MS F bm R w) : bm < w.heap.size := by
  obtain ⟨va, n, vc, zs, hc, -⟩ := h.ex
  exact hc.lt
theorem MS.off {F S : Nat → Prop} {bm : Nat} {R : List Opn} {w w' : World} (h : MS F bm R w) (ho : Off S w w') (hS : ∀ k, (k = bm ∨ F k) → k < w.heap.size → ¬ S k) : MS F bm R w' := by
  obtain ⟨va, n, vc, zs, hc, h2, h3, h4⟩ := h.ex
  exact ⟨⟨va, n, vc, zs, hc.off ho (hS _ (.inl rfl) hc.lt), h2.off ho (fun k hk hl => hS k (.inr hk) hl), h3, h4⟩, h.nb⟩
theorem MS.below {F : Nat → Prop} {bm : Nat} {R : List Opn} {w w' : World} (h : MS F bm R w) (hb : Below w.heap.size w w') : MS F bm R w' := h.off (S := fun _ => False) (Off.of_below hb) (fun _ _ _ h => h)
/-- One op told: to one that is there, to one that is not. -/
theorem tell_one (F : Nat → Prop) (bm : Nat) (R : List Opn) (L S : Nat) (z : Oz) (w : World) (h : MS F bm R w) (hri : RI R L S) (hz : OpOk w z) (hn : OpNa (fun k => k = bm ∨ F k) z) (hsm : Sm z) (hzn : z.n ≤ 9223372036854775807) (hL : L + 1 ≤ 33554432) (hS : S + z.rs.length ≤ 33554432) :
    Calls Try.prog 26 #[.pointer (some ⟨bm, 0, none⟩), .slice (some ⟨w.heap.size, 0, none⟩) 1 1] (w.alloc (.cells z.cs 34)) fun e w' => e = .returned (.tuple #[]) ∧ MS (fun k => F k ∨ w.heap.size ≤ k) bm (rtell z.o R) w' ∧ Off (fun k => k = bm ∨ F k) w w' := by
  obtain ⟨va, n, vc, zs, hc, h2, h3, h4⟩ := h.ex
  have hb := kbelow_one w (.cells z.cs 34)
  have hlt := h.lt
  have hsz : (w.alloc (.cells z.cs 34)).heap.size = w.heap.size + 1 := by simp
  have hts : TS F bm (w.alloc (.cells z.cs 34)) R va n vc zs (w.alloc (.cells z.cs 34)) := ⟨hc.below hb, (h2.below hb).mono fun k hk => .inl hk, h3, h4, Off.refl _ _⟩
  have hF : ∀ (G : Nat → Prop), (∀ k, G k → F k ∧ k < w.heap.size) → True := fun _ _ => trivial
  -- the row's own blocks alone, so that the op's slice is apart
  have hts2 : TS (fun k => F k ∧ k < w.heap.size) bm (w.alloc (.cells z.cs 34)) R va n vc zs (w.alloc (.cells z.cs 34)) := ⟨hc.below hb, ((Oown.tight h2).below hb).mono fun k hk => .inl hk, h3, h4, Off.refl _ _⟩
  refine (tell_any (fun k => F k ∧ k < w.heap.size) bm _ R L S va n vc zs [z] _ (fun hh => h.nb hh.1) (by omega) hts2 hri (orow_one w z _ hz) (fun a m c e => ?_) (fun x hx => ?_) (fun x hx => ?_) (fun x hx => ?_) (by simp; omega) (by simp [sumR, Oz.o]; omega)).mono fun e w' ⟨he, va', n', vc', zs', ht, _⟩ => ⟨he, ⟨⟨va', n', vc', zs', ht.m, ht.o.mono fun k hk => ?_, ht.n, ht.r⟩, fun hh => ?_⟩, ?_⟩
  · injection e with e1 e2 e3
    subst e1
    intro _ x hx hh
    injection hx with hx
    subst hx
    simp only at hh
    omega
  · obtain rfl := List.mem_singleton.1 hx
    exact hn.mono fun g hg => hg.imp id And.left
  · obtain rfl := List.mem_singleton.1 hx; exact hsm
  · obtain rfl := List.mem_singleton.1 hx; exact hzn
  · rcases hk with hk | hk
    · exact .inl hk.1
    · exact .inr (by omega)
  · rcases hh with hh | hh
    · exact h.nb hh
    · omega
  · exact Off.below_l hb (ht.off.mono fun k hk => hk.imp id And.left)

theorem retain_none (n : Int) (pa : Option Addr) (pc : Nat) (pt : List Chg) (w : World) : Calls Try.prog 18 #[.pointer none, .int .i64 n, .slice pa pt.length pc] w fun e w' => e = .returned (.tuple #[]) ∧ Below w.heap.size w w' := by
  have HT := Lib.hid (fun u W => tell_none u W)
  have HB := Lib.hid (kbelow_one w (.cells (Oz.cs (⟨1, n, none, 0, [], none, 0, [], pa, pc, pt⟩ : Oz)) 34))
  go_enter Try.func18, Try.ntmps18
  go_wp2_with (go_at_call 26; refine (HT.out _ _).mono ?_; rintro e w1 ⟨rfl, rfl⟩)
  go_end0
  exact ⟨rfl, HB.out⟩
theorem retain_any (F : Nat → Prop) (bm : Nat) (R : List Opn) (L S : Nat) (n : Int) (pa : Option Addr) (pc : Nat) (pt : List Chg) (w : World) (h : MS F bm R w) (hri : RI R L S) (hz : OpOk w (⟨1, n, none, 0, [], none, 0, [], pa, pc, pt⟩ : Oz)) (hn : OpNa (fun k => k = bm ∨ F k) (⟨1, n, none, 0, [], none, 0, [], pa, pc, pt⟩ : Oz)) (hsm : Sm (⟨1, n, none, 0, [], none, 0, [], pa, pc, pt⟩ : Oz)) (hzn : Oz.n (⟨1, n, none, 0, [], none, 0, [], pa, pc, pt⟩ : Oz) ≤ 9223372036854775807) (hL : L + 1 ≤ 33554432) (hS : S + (Oz.rs (⟨1, n, none, 0, [], none, 0, [], pa, pc, pt⟩ : Oz)).length ≤ 33554432) :
    Calls Try.prog 18 #[.pointer (some ⟨bm, 0, none⟩), .int .i64 n, .slice pa pt.length pc] w fun e w' => e = .returned (.tuple #[]) ∧ MS (fun k => F k ∨ w.heap.size ≤ k) bm (rtell (Oz.o (⟨1, n, none, 0, [], none, 0, [], pa, pc, pt⟩ : Oz)) R) w' ∧ Off (fun k => k = bm ∨ F k) w w' := by
  have HT := Lib.hid (tell_one F bm R L S (⟨1, n, none, 0, [], none, 0, [], pa, pc, pt⟩ : Oz) w h hri hz hn hsm hzn hL hS)
  clear h hri hz hn hsm hzn hL hS
  go_enter Try.func18, Try.ntmps18
  go_wp2_with (go_at_call 26; refine (HT.out).mono ?_; rintro e w1 ⟨rfl, hms, hoff⟩; have HR := Lib.hid (And.intro hms hoff); clear hms hoff)
  go_end0
  exact ⟨rfl, HR.out.1, HR.out.2⟩

theorem insertM_none (ra : Option Addr) (rc : Nat) (rs : List Int) (sa : Option Addr) (sc : Nat) (st : List Att) (w : World) : Calls Try.prog 19 #[.pointer none, .slice ra rs.length rc, .slice sa st.length sc] w fun e w' => e = .returned (.tuple #[]) ∧ Below w.heap.size w w' := by
  have HT := Lib.hid (fun u W => tell_none u W)
  have HB := Lib.hid (kbelow_one w (.cells (Oz.cs (⟨2, 0, ra, rc, rs, sa, sc, st, none, 0, []⟩ : Oz)) 34))
  go_enter Try.func19, Try.ntmps19
  go_wp2_with (go_at_call 26; refine (HT.out _ _).mono ?_; rintro e w1 ⟨rfl, rfl⟩)
  go_end0
  exact ⟨rfl, HB.out⟩
theorem insertM_any (F : Nat → Prop) (bm : Nat) (R : List Opn) (L S : Nat) (ra : Option Addr) (rc : Nat) (rs : List Int) (sa : Option Addr) (sc : Nat) (st : List Att) (w : World) (h : MS F bm R w) (hri : RI R L S) (hz : OpOk w (⟨2, 0, ra, rc, rs, sa, sc, st, none, 0, []⟩ : Oz)) (hn : OpNa (fun k => k = bm ∨ F k) (⟨2, 0, ra, rc, rs, sa, sc, st, none, 0, []⟩ : Oz)) (hsm : Sm (⟨2, 0, ra, rc, rs, sa, sc, st, none, 0, []⟩ : Oz)) (hzn : Oz.n (⟨2, 0, ra, rc, rs, sa, sc, st, none, 0, []⟩ : Oz) ≤ 9223372036854775807) (hL : L + 1 ≤ 33554432) (hS : S + (Oz.rs (⟨2, 0, ra, rc, rs, sa, sc, st, none, 0, []⟩ : Oz)).length ≤ 33554432) :
    Calls Try.prog 19 #[.pointer (some ⟨bm, 0, none⟩), .slice ra rs.length rc, .slice sa st.length sc] w fun e w' => e = .returned (.tuple #[]) ∧ MS (fun k => F k ∨ w.heap.size ≤ k) bm (rtell (Oz.o (⟨2, 0, ra, rc, rs, sa, sc, st, none, 0, []⟩ : Oz)) R) w' ∧ Off (fun k => k = bm ∨ F k) w w' := by
  have HT := Lib.hid (tell_one F bm R L S (⟨2, 0, ra, rc, rs, sa, sc, st, none, 0, []⟩ : Oz) w h hri hz hn hsm hzn hL hS)
  clear h hri hz hn hsm hzn hL hS
  go_enter Try.func19, Try.ntmps19
  go_wp2_with (go_at_call 26; refine (HT.out).mono ?_; rintro e w1 ⟨rfl, hms, hoff⟩; have HR := Lib.hid (And.intro hms hoff); clear hms hoff)
  go_end0
  exact ⟨rfl, HR.out.1, HR.out.2⟩

theorem deleteM_none (n : Int) (w : World) : Calls Try.prog 20 #[.pointer none, .int .i64 n] w fun e w' => e = .returned (.tuple #[]) ∧ Below w.heap.size w w' := by
  have HT := Lib.hid (fun u W => tell_none u W)
  have HB := Lib.hid (kbelow_one w (.cells (Oz.cs (⟨3, n, none, 0, [], none, 0, [], none, 0, []⟩ : Oz)) 34))
  go_enter Try.func20, Try.ntmps20
  go_wp2_with (go_at_call 26; refine (HT.out _ _).mono ?_; rintro e w1 ⟨rfl, rfl⟩)
  go_end0
  exact ⟨rfl, HB.out⟩
theorem deleteM_any (F : Nat → Prop) (bm : Nat) (R : List Opn) (L S : Nat) (n : Int) (w : World) (h : MS F bm R w) (hri : RI R L S) (hz : OpOk w (⟨3, n, none, 0, [], none, 0, [], none, 0, []⟩ : Oz)) (hn : OpNa (fun k => k = bm ∨ F k) (⟨3, n, none, 0, [], none, 0, [], none, 0, []⟩ : Oz)) (hsm : Sm (⟨3, n, none, 0, [], none, 0, [], none, 0, []⟩ : Oz)) (hzn : Oz.n (⟨3, n, none, 0, [], none, 0, [], none, 0, []⟩ : Oz) ≤ 9223372036854775807) (hL : L + 1 ≤ 33554432) (hS : S + (Oz.rs (⟨3, n, none, 0, [], none, 0, [], none, 0, []⟩ : Oz)).length ≤ 33554432) :
    Calls Try.prog 20 #[.pointer (some ⟨bm, 0, none⟩), .int .i64 n] w fun e w' => e = .returned (.tuple #[]) ∧ MS (fun k => F k ∨ w.heap.size ≤ k) bm (rtell (Oz.o (⟨3, n, none, 0, [], none, 0, [], none, 0, []⟩ : Oz)) R) w' ∧ Off (fun k => k = bm ∨ F k) w w' := by
  have HT := Lib.hid (tell_one F bm R L S (⟨3, n, none, 0, [], none, 0, [], none, 0, []⟩ : Oz) w h hri hz hn hsm hzn hL hS)
  clear h hri hz hn hsm hzn hL hS
  go_enter Try.func20, Try.ntmps20
  go_wp2_with (go_at_call 26; refine (HT.out).mono ?_; rintro e w1 ⟨rfl, hms, hoff⟩; have HR := Lib.hid (And.intro hms hoff); clear hms hoff)
  go_end0
  exact ⟨rfl, HR.out.1, HR.out.2⟩

theorem mops_none (w : World) : Calls Try.prog 21 #[.pointer none] w fun e w' => e = .returned (.slice none 0 0) ∧ w' = w := by
  go_enter Try.func21, Try.ntmps21
  go_wp2
  go_ret
  exact ⟨rfl, rfl⟩
theorem mops_any (F : Nat → Prop) (bm : Nat) (R : List Opn) (w : World) (h : MS F bm R w) (hsm : ∀ o ∈ R, o.rs.length ≤ 16777216 ∧ o.st.length ≤ 16777216 ∧ o.pt.length ≤ 16777216) (hl : R.length ≤ 16777216) :
    Calls Try.prog 21 #[.pointer (some ⟨bm, 0, none⟩)] w fun e w' => ∃ v ys, e = .returned v ∧ ys.map Oz.o = (settleR R).reverse ∧ Oown (fun g => w.heap.size ≤ g) w' v ys ∧ Below w.heap.size w w' := by
  obtain ⟨va, n, vc, zs, hc, h2, h3, h4⟩ := h.ex
  subst h3
  have HSE := Lib.hid (settled_any va vc zs w h2.orow)
  have hsz : ∀ z ∈ settleZ zs, Sm z := fun z hz => by
    have : z.o ∈ R := by rw [← h4]; simpa using List.mem_map_of_mem (f := Oz.o) (mem_settleZ hz)
    obtain ⟨a, b, c⟩ := hsm _ this
    exact ⟨a, b, c⟩
  have hln : (settleZ zs).length ≤ 16777216 := by
    have e := settleZ_len zs
    have : R.length = zs.length := by rw [← h4]; simp
    split at e <;> omega
  have HCP := Lib.hid (ocopy_any (.slice va (settleZ zs).length vc) (settleZ zs) w (h2.settle rfl).orow hln hsz)
  have HE := Lib.hid (show (settleZ zs).map Oz.o = (settleR R).reverse by rw [settleZ_o, h4])
  have cm := hc.cell 0
  have cm2 : w.cell? ⟨bm, 0, none⟩ = some (.slice va zs.length vc) := cm
  clear cm hc h2 h4 hsz hln hsm hl h
  go_enter Try.func21, Try.ntmps21
  go_wp2_with (first
    | (go_at_call 27; refine (HSE.out).mono ?_; rintro e w1 ⟨rfl, rfl⟩)
    | (go_at_call 33; refine (HCP.out).mono ?_; rintro e w2 ⟨v2, ys2, rfl, he2, ho2, hb2⟩; have HR := Lib.hid (And.intro he2 (And.intro ho2 hb2)); clear he2 ho2 hb2))
  go_ret
  exact ⟨_, ys2, rfl, HR.out.1.trans HE.out, HR.out.2.1, HR.out.2.2⟩
end Go.Proofs.Ytnggnfhaokkcmaa
