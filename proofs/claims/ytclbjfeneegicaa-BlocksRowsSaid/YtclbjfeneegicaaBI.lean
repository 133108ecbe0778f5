
import Derived.Test.YtclbjfeneegicaaBH
/- BI: BlocksJoin -/
namespace Go.Proofs.Ytclbjfeneegicaa
open Go.RowKit
set_option linter.unusedVariables false
set_option maxRecDepth 100000

theorem Rep.n_le {l : List Bk} {p : List (List Att)} (h : Rep l p) : ∀ b ∈ l, b.n ≤ p.length := by
  intro b hb
  rw [← h.ex]
  obtain ⟨A, B, rfl⟩ := List.append_of_mem hb
  rw [ex_app, ex_cons, List.length_append, List.length_append, plc_len]
  omega
theorem Rep.s_mem {l : List Bk} {p : List (List Att)} (h : Rep l p) : ∀ b ∈ l, b.s ∈ p := by
  intro b hb
  rw [← h.ex]
  have := prp_pos l h.prp b hb
  exact List.mem_flatMap.2 ⟨b, hb, by unfold plc; rw [List.mem_replicate]; exact ⟨by omega, rfl⟩⟩
/-- Two rows of the call's own, one behind the other. -/
theorem Zown.appd {B B' : Nat} {w w' : World} {v u v' : Value} {zs1 zs2 : List Bz} (h1 : Zown B w v zs1) (h2 : Zown B' w u zs2) (hB : B ≤ B') (hg : w.grownBy w' v.ownBlock)
    (ho : w'.ownsRow B 34 2 v' (zs1.length + zs2.length) (fl bzC zs1 ++ fl bzC zs2)) : Zown B w' v' (zs1 ++ zs2) := by
  have hO : Off (fun k => v.ownBlock = some k) w w' := Off.of_grown hg (fun g hg => hg)
  refine ⟨by rw [List.length_append, fl_app]; exact ho, fun z hz => ?_⟩
  rcases List.mem_append.1 hz with hz | hz
  · exact sets_kept h1.row hO (h1.sets z hz)
  · exact sets_kept h1.row hO (owns_mono (h2.sets z hz) hB)
/-- What a row of the call's own that tells these places holds. -/
theorem bz_bounds {zs : List Bz} {p : List (List Att)} (h : Rep (zs.map Bz.b) p) {m : Nat} (hp : p.length ≤ 1125899906842624) (hs : ∀ s ∈ p, s.length ≤ m) : (∀ z ∈ zs, z.n ≤ 1125899906842624) ∧ (∀ z ∈ zs, z.s.length ≤ m) ∧ ∀ z ∈ zs, 0 ≤ z.n :=
  ⟨fun z hz => by
    have h1 : z.b.n ≤ p.length := h.n_le z.b (List.mem_map.2 ⟨z, hz, rfl⟩)
    have h2 : z.b.n = z.n := rfl
    omega, fun z hz => hs _ (h.s_mem z.b (List.mem_map.2 ⟨z, hz, rfl⟩)), fun z hz => by have : 0 < z.b.n := prp_pos _ h.prp z.b (List.mem_map.2 ⟨z, hz, rfl⟩); have h2 : z.b.n = z.n := rfl; omega⟩
theorem small_step {cs : List Cz} {k : Nat} (h : k < cs.length) (hp : ∀ z ∈ cs.take k, z.s.length ≤ 30) (hz : cs[k].s.length ≤ 30) : ∀ z ∈ cs.take (k + 1), z.s.length ≤ 30 := by
  intro z hm
  rw [List.take_succ_eq_append_getElem h] at hm
  rcases List.mem_append.1 hm with hm | hm
  · exact hp z hm
  · obtain rfl := List.mem_singleton.1 hm
    exact hz
theorem inl_small {cs : List Cz} {m : Nat} (h : ∀ z ∈ cs, z.s.length ≤ m) : ∀ s ∈ cs.map Cz.inl, s.length ≤ m := fun s hs => by
  obtain ⟨z, hz, rfl⟩ := List.mem_map.1 hs
  exact Nat.le_trans (inl_len z) (h z hz)
/-- The end of a walk: the known case. -/
theorem kn_end {w W : World} (hb : Below w.heap.size w W) : Calls Try.prog 12 #[] W fun e w' => e = .returned (.bool true) ∧ Below w.heap.size w w' :=
  (known_any W).mono fun e w' h => ⟨h.1, below_add hb h.2 hb.size⟩
theorem crow_both {w0 w : World} {v va vb : Value} {xs ys : List Cz} (ha : Crow w0 va xs) (hb : Crow w0 vb ys) (hbel : Below w0.heap.size w0 w) (ho : w.ownsRow w0.heap.size 44 2 v (xs.length + ys.length) (fl czC xs ++ fl czC ys)) : Crow w v (xs ++ ys) := by
  refine ⟨?_, fun z hz => ?_⟩
  · have h : w.ownsRow w0.heap.size 44 czC.m v (xs.length + ys.length) (fl czC (xs ++ ys)) := by rw [fl_app]; exact ho
    exact (Row.of_owns (C := czC) h).1
  · rcases List.mem_append.1 hz with hz | hz
    · exact (ha.sets z hz).below hbel (Nat.le_refl _)
    · exact (hb.sets z hz).below hbel (Nat.le_refl _)
theorem bj_facts {w4 w5 w6 w7 w8 : World} {xs ys cs : List Cz} {zs1 zs2 zs3 : List Bz} {pa qa ra ja : Option Addr} {pc qc rc jc : Nat}
    (h1 : OfK w4 (xs.map Cz.inl) xs.length (.slice pa zs1.length pc) zs1 w5) (h2 : OfK w5 (ys.map Cz.inl) ys.length (.slice qa zs2.length qc) zs2 w6) (h3 : OfK w6 (cs.map Cz.inl) cs.length (.slice ra zs3.length rc) zs3 w7)
    (ho : w8.ownsRow w4.heap.size 34 bzC.m (.slice ja (zs1.length + zs2.length) jc) (zs1.length + zs2.length) (fl bzC zs1 ++ fl bzC zs2)) (hg : w7.grownBy w8 (Value.slice pa zs1.length pc).ownBlock)
    (hx : ∀ z ∈ xs, z.s.length ≤ 30) (hy : ∀ z ∈ ys, z.s.length ≤ 30) (hxl : xs.length ≤ 250) (hyl : ys.length ≤ 250) :
    Calls Try.prog 14 #[.slice ja (zs1.length + zs2.length) jc] w8 (fun e w' => ∃ a c zs', e = .returned (.slice a zs'.length c) ∧ Zown w8.heap.size w' (.slice a zs'.length c) zs' ∧ Rep (zs'.map Bz.b) ((xs ++ ys).map Cz.inl) ∧ zs'.length ≤ (zs1 ++ zs2).length ∧ Below w8.heap.size w8 w') ∧
      Zrow w8 (.slice ra zs3.length rc) zs3 ∧ Below w4.heap.size w4 w8 := by
  have hp7 := (h1.own.below h2.bel).below h3.bel
  have hq7 := h2.own.below h3.bel
  have hb7 : Below w4.heap.size w4 w7 := (h1.bel.trans (h2.bel.mono h1.bel.size)).trans (h3.bel.mono (Nat.le_trans h1.bel.size h2.bel.size))
  have hO : Off (fun k => (Value.slice pa zs1.length pc).ownBlock = some k) w7 w8 := Off.of_grown hg (fun g hg => hg)
  have hz := Zown.appd hp7 hq7 h1.bel.size hg ho
  have e : ex ((zs1 ++ zs2).map Bz.b) = (xs ++ ys).map Cz.inl := by rw [List.map_append, ex_app, h1.rep.ex, h2.rep.ex, List.map_append]
  have b1 := bz_bounds h1.rep (m := 30) (by rw [List.length_map]; omega) (inl_small hx)
  have b2 := bz_bounds h2.rep (m := 30) (by rw [List.length_map]; omega) (inl_small hy)
  refine ⟨?_, ?_, hb7.trans (hO.below (fun k hk => own_base hp7.row hk) hb7.size)⟩
  · rw [← e]
    refine join_any _ (zs1 ++ zs2) w8 hz.zrow (by have := h1.ln; have := h2.ln; rw [List.length_append]; omega) (fun z hz => ?_) (fun z hz => ?_)
    · rcases List.mem_append.1 hz with hz | hz
      · exact b1.1 z hz
      · exact b2.1 z hz
    · rcases List.mem_append.1 hz with hz | hz
      · exact Nat.le_trans (b1.2.1 z hz) (by decide)
      · exact Nat.le_trans (b2.2.1 z hz) (by decide)
  · exact (h3.own.off hO (fun k hk _ hh => by have := own_lt7 (h1.own.below h2.bel).row hh; omega)).zrow
theorem bj_same {w8 w9 : World} {xs ys cs : List Cz} {zs3 zs4 : List Bz} {ra ka : Option Addr} {rc kc : Nat} (h3 : Zrow w8 (.slice ra zs3.length rc) zs3) (q1 : Zown w8.heap.size w9 (.slice ka zs4.length kc) zs4) (q2 : Rep (zs4.map Bz.b) ((xs ++ ys).map Cz.inl)) (q4 : Below w8.heap.size w8 w9) (hr : Rep (zs3.map Bz.b) (cs.map Cz.inl)) (hc : xs ++ ys = cs) :
    Calls Try.prog 18 #[.slice ra zs3.length rc, .slice ka zs4.length kc] w9 fun e w' => e = .returned (.bool true) ∧ Below w9.heap.size w9 w' :=
  (rsame_any _ _ zs3 zs4 w9 (h3.below q4) q1.zrow).mono fun e w' h => ⟨by rw [h.1, decide_eq_true (hr.uniq (by rw [← hc]; exact q2))], h.2⟩
set_option maxHeartbeats 4000000 in
theorem bjoin_walk (va vb : Value) (xs ys : List Cz) (w : World) (ha : Crow w va xs) (hb : Crow w vb ys) :
    Calls Try.prog 7 #[va, vb] w fun e w' => e = .returned (.bool true) ∧ Below w.heap.size w w' := by
  have hla : xs.length ≤ 9223372036854775807 := ha.row.len
  have hlb : ys.length ≤ 9223372036854775807 := hb.row.len
  obtain ⟨aa, ac, rfl⟩ := ha.shape
  obtain ⟨ba, bc, rfl⟩ := hb.shape
  have HA := Lib.hid ha
  have HB := Lib.hid hb
  have HK0 := Lib.hid (kn_end (Below.refl w.heap.size w))
  obtain ⟨ic, hic, hcz0, hcz1, hcz2⟩ := info_cell
  obtain ⟨i0, hi, hz0, hz1, hz2⟩ := info_bk
  by_cases h1 : 250 < xs.length
  · have g1 : decide ((250 : Int) < (xs.length : Int)) = true := by rw [decide_eq_true_iff]; omega
    clear ha hb
    go_enter Try.func7, Try.ntmps7
    go_wp2_with (go_at_call 12; refine HK0.out.mono ?_; rintro e w1 ⟨rfl, hb1⟩)
    go_ret
    exact ⟨rfl, hb1⟩
  have g1 : decide ((250 : Int) < (xs.length : Int)) = false := by rw [decide_eq_false_iff_not]; omega
  by_cases h2 : 250 < ys.length
  · have g2 : decide ((250 : Int) < (ys.length : Int)) = true := by rw [decide_eq_true_iff]; omega
    clear ha hb
    go_enter Try.func7, Try.ntmps7
    go_wp2_with (go_at_call 12; refine HK0.out.mono ?_; rintro e w1 ⟨rfl, hb1⟩)
    go_ret
    exact ⟨rfl, hb1⟩
  have g2 : decide ((250 : Int) < (ys.length : Int)) = false := by rw [decide_eq_false_iff_not]; omega
  clear ha hb HK0
  go_enter Try.func7, Try.ntmps7
  go_upto_region 4 with (first
    | (at_builtin; refine wpList_copy_new (C := czC) (w0 := w) rfl (.tmp 18) (.tmp 19) 42 rfl 44 ic (.agg #[.int .i32 0, .slice none 0 0]) 32 Try.underlying42 hic hcz0 hcz1 hcz2 rfl rfl _ xs rfl (HA.out.row.below ((Below.refl _ _).alloc (Nat.le_refl _) _) (Nat.le_refl _)) (by unfold maxLen; omega) (by omega) ?_; intro pa pc w3 hown3 hb3)
    | (at_builtin; refine wpList_append_row (C := czC) rfl (.tmp 20) (.tmp 21) 42 rfl w.heap.size 44 ic (.agg #[.int .i32 0, .slice none 0 0]) 32 Try.underlying42 hic hcz0 hcz1 hcz2 rfl (.slice pa xs.length pc) xs.length (fl czC xs) rfl hown3 _ ys rfl (HB.out.row.below hb3 (Nat.le_refl _)) (by unfold maxLen; omega) (by omega) hb3.size ?_; intro v4 w4 hown4 hgrow4; obtain ⟨ca, cc, rfl, -, -⟩ := own_shape hown4))
  have hb4 : Below w.heap.size w w4 := hb3.trans ((Off.of_grown (S := fun k => (Value.slice pa xs.length pc).ownBlock = some k) hgrow4 (fun g hg => hg)).below (fun k hk => own_base hown3 hk) hb3.size)
  have HC := Lib.hid (crow_both HA.out HB.out hb4 hown4)
  have HB4 := Lib.hid hb4
  clear hb4 hown4 hown3 hb3 hgrow4
  have HCL := Lib.hid (show (xs ++ ys).length = xs.length + ys.length from List.length_append)
  obtain ⟨cs, hcs⟩ : ∃ cs, xs ++ ys = cs := ⟨_, rfl⟩
  rw [hcs] at HC HCL
  have HCS := Lib.hid hcs
  obtain ⟨n4, hn4⟩ : ∃ n, xs.length + ys.length = n := ⟨_, rfl⟩
  rw [hn4] at HC HCL ⊢
  have HN4 := Lib.hid (show n4 ≤ 500 by omega)
  clear hcs hn4
  have hn4 := HN4.out
  have HKE := Lib.hid (kn_end HB4.out)
  go_wp2_with fail
  go_loop [25] (fun i => ∃ k : Nat, k ≤ n4 ∧ i = .int .i64 k ∧ Hid (∀ z ∈ cs.take k, z.s.length ≤ 30)) (fun i => n4 - (intOf i).toNat)
  case atStart => exact ⟨0, Nat.zero_le _, rfl, Lib.hid (by simp)⟩
  case round =>
    obtain ⟨k, hk, rfl, HP⟩ := hrel
    by_cases hlt : k < n4
    · have hltc : k < cs.length := by rw [HCL.out]; exact hlt
      have HC2 := Lib.hid (show Crow w4 (.slice ca cs.length cc) cs from by rw [HCL.out]; exact HC.out)
      obtain ⟨b, off, rfl, -, -, -, hbl, hat⟩ := HC2.out.opn (by omega)
      obtain ⟨-, c1, -⟩ := hat k hltc
      have HST := Lib.hid (fun h => small_step hltc HP.out h)
      have g7 : decide ((k : Int) < (n4 : Int)) = true := by rw [decide_eq_true_iff]; omega
      obtain ⟨z, hz⟩ : ∃ z, cs[k] = z := ⟨_, rfl⟩
      rw [hz] at c1 HST
      clear hat hz HC2
      by_cases h3 : 30 < z.s.length
      · have g3 : decide ((30 : Int) < (z.s.length : Int)) = true := by rw [decide_eq_true_iff]; omega
        clear HST
        go_wp2_with (go_at_call 12; refine HKE.out.mono ?_; rintro e w5 ⟨rfl, hb5⟩)
        go_ret
        exact ⟨rfl, hb5⟩
      · have g3 : decide ((30 : Int) < (z.s.length : Int)) = false := by rw [decide_eq_false_iff_not]; omega
        have HB2 := Lib.hid (HST.out (by omega))
        clear HST
        go_wp2
        go_round
        case rel => exact ⟨k + 1, by omega, by go_num, HB2⟩
        case measure => simp [intOf]; omega
    · obtain rfl : k = n4 := by omega
      have g7 : decide ((k : Int) < (k : Int)) = false := by rw [decide_eq_false_iff_not]; omega
      have HSM := Lib.hid (show ∀ z ∈ cs, z.s.length ≤ 30 from by have := HP.out; rwa [List.take_of_length_le (by rw [HCL.out]; exact Nat.le_refl _)] at this)
      have HXS := Lib.hid (show (∀ z ∈ xs, z.s.length ≤ 30) ∧ ∀ z ∈ ys, z.s.length ≤ 30 from ⟨fun z hz => HSM.out z (by rw [← HCS.out]; exact List.mem_append_left _ hz), fun z hz => HSM.out z (by rw [← HCS.out]; exact List.mem_append_right _ hz)⟩)
      clear HP hlt hk
      have HO1 := Lib.hid (of_any _ xs w4 (HA.out.below HB4.out) (by omega) (fun z hz => Nat.le_trans (HXS.out.1 z hz) (by decide)))
      have HO2 := Lib.hid (fun w5 (hb : Below w4.heap.size w4 w5) => of_any _ ys w5 (HB.out.below (HB4.out.trans (hb.mono HB4.out.size))) (by omega) (fun z hz => Nat.le_trans (HXS.out.2 z hz) (by decide)))
      have HO3 := Lib.hid (fun w5 (hb : Below w4.heap.size w4 w5) => of_any _ cs w5 (HC.out.below hb) (by rw [HCL.out]; omega) (fun z hz => Nat.le_trans (HSM.out z hz) (by decide)))
      go_upto_region 11 with (first
        | (go_at_call 22; (with_reducible refine HO1.out.mono ?_); rintro e w5 ⟨pa, pc, zs1, rfl, q1⟩; have HQ1 := Lib.hid q1; clear q1)
        | (go_at_call 22; (with_reducible refine (HO2.out w5 HQ1.out.bel).mono ?_); rintro e w6 ⟨qa, qc, zs2, rfl, q2⟩; have HQ2 := Lib.hid q2; have HB6 := Lib.hid (HQ1.out.bel.trans (q2.bel.mono HQ1.out.bel.size)); clear q2))
      have HL1 := Lib.hid (show zs1.length ≤ 250 ∧ zs2.length ≤ 250 from by have := HQ1.out.ln; have := HQ2.out.ln; omega)
      have hl1 := HL1.out.1
      have hl2 := HL1.out.2
      go_wp2_with (first
        | (go_at_call 22; (with_reducible refine (HO3.out w6 HB6.out).mono ?_); rintro e w7 ⟨ra, rc, zs3, rfl, q3⟩; have HQ3 := Lib.hid q3; have HP7 := Lib.hid ((HQ1.out.own.below HQ2.out.bel).below q3.bel); have HQ7 := Lib.hid (HQ2.out.own.below q3.bel); clear q3)
        | (at_builtin; refine wpList_append_row (C := bzC) rfl (.tmp 43) (.tmp 44) 22 rfl w4.heap.size 34 i0 (bv 0 none 0 0) 32 Try.underlying22 hi hz0 hz1 hz2 rfl (.slice pa zs1.length pc) zs1.length (fl bzC zs1) rfl HP7.out.row _ zs2 rfl HQ7.out.zrow.row (by unfold maxLen; omega) (by omega) (by have := HB6.out.size; have := HQ3.out.bel.size; omega) ?_; intro v8 w8 hown8 hgrow8; obtain ⟨ja, jc, rfl, -, -⟩ := own_shape hown8; have HF8 := Lib.hid (bj_facts HQ1.out HQ2.out HQ3.out hown8 hgrow8 HXS.out.1 HXS.out.2 (by omega) (by omega)); clear hown8 hgrow8)
        | (go_at_call 14; (with_reducible refine HF8.out.1.mono ?_); rintro e w9 ⟨ka, kc, zs4, rfl, q1, q2, q3, q4⟩; have HS9 := Lib.hid (bj_same HF8.out.2.1 q1 q2 q4 HQ3.out.rep HCS.out); have HB9 := Lib.hid (below_add (HB4.out.trans (HF8.out.2.2.mono HB4.out.size)) q4 (Nat.le_trans HB4.out.size HF8.out.2.2.size)); clear q1 q2 q3 q4)
        | (go_at_call 18; (with_reducible refine HS9.out.mono ?_); rintro e w10 ⟨rfl, hb10⟩; have HB10 := Lib.hid (below_add HB9.out hb10 HB9.out.size); clear hb10)
        | (go_at_call 12; (with_reducible refine (kn_end HB10.out).mono ?_); rintro e w11 ⟨rfl, hb11⟩))
      go_ret
      exact ⟨rfl, hb11⟩
end Go.Proofs.Ytclbjfeneegicaa
