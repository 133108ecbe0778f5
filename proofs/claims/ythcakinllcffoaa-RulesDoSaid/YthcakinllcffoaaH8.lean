
import Derived.Test.YthcakinllcffoaaH7
/- H8: the reference's Complete -/
namespace Go.Proofs.Ythcakinllcffoaa
open Go.RowKit
set_option linter.unusedVariables false

theorem grp_mem {ks : List Key} (hg : Good ks) {id o : Int} : o ∈ grpOf ks id ↔ o ≠ id ∧ grpN ks o = grpN ks id ∧ grpN ks id ≠ 0 := by
  unfold grpOf
  cases hf : fnd ks id with
  | none => rw [grpN_none hf]; simp
  | some k =>
    rw [grpN_some hf]
    simp only
    split
    · rename_i h0; simp [h0]
    · rename_i h0
      simp only [List.mem_map, List.mem_filter, Bool.and_eq_true, beq_iff_eq, bne_iff_ne]
      constructor
      · rintro ⟨o', ⟨h1, h2, h3⟩, rfl⟩
        exact ⟨h3, by rw [grpN_some (fnd_mem hg.2 ((rising_mem hg o').1 h1))]; exact h2, h0⟩
      · rintro ⟨h1, h2, _⟩
        cases ho : fnd ks o with
        | none => rw [grpN_none ho] at h2; exact absurd h2.symm h0
        | some o' =>
          rw [grpN_some ho] at h2
          obtain ⟨m, e⟩ := fnd_some ho
          exact ⟨o', ⟨(rising_mem hg o').2 m, h2, by rw [e]; exact h1⟩, e⟩
/-- No other key of its group is set. -/
def Clear (ks : List Key) (p : List Chg) (c : Chg) : Prop := c.g = false → ∀ o ∈ grpOf ks c.key, ∀ d, getC p o = some d → d.g = true
theorem nodup_clear {ks : List Key} (hg : Good ks) {p : List Chg} (hp : RiseC p) (h : ∀ c ∈ p, Clear ks p c) : (setsG ks p).Nodup := by
  refine nodup_of hp fun c hc d hd g h1 h2 => ?_
  by_cases e : c.key = d.key
  · exact e
  exfalso
  obtain ⟨c1, c2, c3⟩ := setG_some.1 h1
  obtain ⟨d1, d2, d3⟩ := setG_some.1 h2
  have := h c hc c1 d.key ((grp_mem hg).2 ⟨fun h => e h.symm, by rw [c2, d2], by rw [c2]; exact c3⟩) d (getC_in hp hd)
  rw [d1] at this
  cases this
theorem odd_bad {ks : List Key} (hg : Good ks) {p : List Chg} {c d : Chg} {o : Int} (hc : c ∈ p) (h : c.g = false) (ho : o ∈ grpOf ks c.key) (hd : getC p o = some d) (hn : d.g = false) : ¬ (setsG ks p).Nodup := fun hN => by
  obtain ⟨h1, h2, h3⟩ := (grp_mem hg).1 ho
  obtain ⟨d1, d2⟩ := getC_key hd
  have s1 : setG ks c = some (grpN ks c.key) := setG_some.2 ⟨h, rfl, h3⟩
  have s2 : setG ks d = some (grpN ks c.key) := setG_some.2 ⟨hn, by rw [d2]; exact h2, h3⟩
  have := apart_of hN hc d1 s1 s2
  rw [this, d2] at h1
  exact h1 rfl

/-- The outer loop: i changes are behind; the inner one: j of the i-th one's others too. -/
structure RC (ks : List Key) (p : List Chg) (i j : Nat) (xs : List Int) (out : List Chg) : Prop where
  rise : RiseC out
  get : ∀ k, getC out k = (getC p k).or (if grpN ks k ∈ setsG ks (p.take i) ∨ k ∈ xs.take j then some (goneC k) else none)
  len : out.length ≤ p.length + 64 * i + j
  odd : ∀ c ∈ p.take i, Clear ks p c
  oddj : ∀ o ∈ xs.take j, ∀ d, getC p o = some d → d.g = true
theorem RC.init {ks : List Key} {p : List Chg} (hp : RiseC p) : RC ks p 0 0 [] p :=
  ⟨hp, fun k => by simp [setsG], by simp, by simp, by simp⟩
theorem RC.inner {ks : List Key} {p : List Chg} {i : Nat} {xs : List Int} {out : List Chg} (h : RC ks p i 0 [] out) : RC ks p i 0 xs out :=
  ⟨h.rise, fun k => by rw [h.get]; simp, h.len, h.odd, by simp⟩
theorem RC.skip {ks : List Key} {p : List Chg} {i : Nat} {out : List Chg} (h : RC ks p i 0 [] out) (hi : i < p.length) (hg : p[i].g = true) : RC ks p (i + 1) 0 [] out := by
  refine ⟨h.rise, fun k => ?_, by have := h.len; omega, ?_, by simp⟩
  · rw [h.get, setsG_skip hi (by unfold setG; rw [if_pos (.inl hg)])]
  · intro c hc
    rw [tsnoc hi] at hc
    rcases List.mem_append.1 hc with hc | hc
    · exact h.odd c hc
    · rw [List.mem_singleton] at hc
      intro hf
      rw [hc, hg] at hf
      cases hf
theorem itake_snoc {xs : List Int} {j : Nat} (h : j < xs.length) : xs.take (j + 1) = xs.take j ++ [xs.getD j 0] := by
  rw [List.take_succ_eq_append_getElem h]; simp [List.getD, h]
theorem RC.has {ks : List Key} {p : List Chg} {i j : Nat} {xs : List Int} {out : List Chg} (h : RC ks p i j xs out) (hj : j < xs.length) {d : Chg} (hd : getC p (xs.getD j 0) = some d) (hg : d.g = true) : RC ks p i (j + 1) xs out := by
  refine ⟨h.rise, fun k => ?_, by have := h.len; omega, h.odd, ?_⟩
  · rw [h.get, itake_snoc hj]
    by_cases e : k = xs.getD j 0
    · rw [e, hd]; simp
    · have e2 : k ∈ xs.take j ++ [xs.getD j 0] ↔ k ∈ xs.take j := by rw [List.mem_append, List.mem_singleton]; exact ⟨fun h => h.elim id (fun h => absurd h e), .inl⟩
      simp only [e2]
  · intro o ho d2 hd2
    rw [itake_snoc hj] at ho
    rcases List.mem_append.1 ho with ho | ho
    · exact h.oddj o ho d2 hd2
    · rw [List.mem_singleton] at ho
      rw [ho, hd] at hd2
      rw [← Option.some.inj hd2]; exact hg
theorem RC.puts {ks : List Key} {p : List Chg} {i j : Nat} {xs : List Int} {out : List Chg} (h : RC ks p i j xs out) (hj : j < xs.length) (hd : getC p (xs.getD j 0) = none) : RC ks p i (j + 1) xs (put6 (goneC (xs.getD j 0)) out) := by
  obtain ⟨h1, h2, _⟩ := put6_get (goneC (xs.getD j 0)) h.rise
  refine ⟨h1, fun k => ?_, by have := h.len; have := put6_len (goneC (xs.getD j 0)) out; omega, h.odd, ?_⟩
  · rw [h2, h.get, itake_snoc hj]
    show (if k = xs.getD j 0 then _ else _) = _
    by_cases e : k = xs.getD j 0
    · rw [if_pos e, e, hd]; simp
    · have e2 : k ∈ xs.take j ++ [xs.getD j 0] ↔ k ∈ xs.take j := by rw [List.mem_append, List.mem_singleton]; exact ⟨fun h => h.elim id (fun h => absurd h e), .inl⟩
      rw [if_neg e]
      simp only [e2]
  · intro o ho d2 hd2
    rw [itake_snoc hj] at ho
    rcases List.mem_append.1 ho with ho | ho
    · exact h.oddj o ho d2 hd2
    · rw [List.mem_singleton] at ho
      rw [ho, hd] at hd2
      cases hd2
theorem RC.outer {ks : List Key} (hg : Good ks) {p : List Chg} (hp : RiseC p) {i : Nat} {out : List Chg} (hi : i < p.length) (hf : p[i].g = false) (hl : (grpOf ks p[i].key).length ≤ 64) (h : RC ks p i (grpOf ks p[i].key).length (grpOf ks p[i].key) out) : RC ks p (i + 1) 0 [] out := by
  have ho := h.oddj
  have hget := h.get
  rw [List.take_of_length_le (Nat.le_refl _)] at ho
  simp only [List.take_of_length_le (Nat.le_refl _)] at hget
  refine ⟨h.rise, fun k => ?_, by have := h.len; omega, ?_, by simp⟩
  · rw [hget]
    by_cases e : k = p[i].key
    · rw [e, getC_in hp (List.getElem_mem hi)]; simp
    · congr 1
      have : (grpN ks k ∈ setsG ks (p.take i) ∨ k ∈ grpOf ks p[i].key) ↔ (grpN ks k ∈ setsG ks (p.take (i + 1)) ∨ k ∈ ([] : List Int).take 0) := by
        rw [grp_mem hg]
        by_cases h0 : grpN ks p[i].key = 0
        · rw [setsG_skip hi (by unfold setG; rw [if_pos (.inr h0)])]
          simp [h0]
        · rw [setsG_more hi (setG_some.2 ⟨hf, rfl, h0⟩)]
          simp [h0, e]
      simp only [this]
  · intro c hc
    rw [tsnoc hi] at hc
    rcases List.mem_append.1 hc with hc | hc
    · exact h.odd c hc
    · rw [List.mem_singleton] at hc
      intro _
      rw [hc]
      exact ho
theorem RC.done {ks : List Key} (hg : Good ks) {p : List Chg} (hp : RiseC p) {out : List Chg} (h : RC ks p p.length 0 [] out) : cE ks p = 0 ∧ cL ks p = out := by
  have ho := h.odd
  have hget := h.get
  rw [tend] at ho hget
  have hn := nodup_clear hg hp ho
  obtain ⟨h1, h2⟩ := cE_yes hn
  refine ⟨h1, ?_⟩
  rw [h2]
  refine extC (compl_rise hp) h.rise fun k => ?_
  rw [hget, compl_get hg hp]
  simp
structure RM (ks : List Key) (p : List Chg) (i j : Nat) (xs : List Int) (w w3 : World) (out : List Chg) (v : Value) (wr : World) : Prop where
  rc : RC ks p i j xs out
  own : Own6 w wr v out
  bel : Below w3.heap.size w3 wr

set_option maxRecDepth 100000 in
set_option maxHeartbeats 4000000 in
theorem rcomplete_some (v u : Value) (ks : List Key) (p : List Chg) (w : World) (hk : Krow w v ks) (hl : ks.length ≤ 64) (hg : Good ks) (hp : Crow w u p) (hr : RiseC p) (hlp : p.length ≤ 1000) (h0 : 0 < p.length) :
    Calls Try.prog 17 #[v, u] w fun e w' => ∃ u', e = .returned (.tuple #[u', .int .i64 (cE ks p)]) ∧ Own6 w w' u' (cL ks p) ∧ Below w.heap.size w w' := by
  obtain ⟨i0, hi, hz0, hz1, hz2⟩ := info_ch
  have HP0 := Lib.hid (show Crow (w.alloc (.cells #[] 49)) u p from hp.below (kbelow_one w _) (Nat.le_refl _))
  have HO := Lib.hid (own_none w 49 6)
  have HP := Lib.hid hp
  have HK := Lib.hid hk
  have HR := Lib.hid hr
  have HG := Lib.hid hg
  obtain ⟨ua, ucap, rfl⟩ := hp.shape
  obtain ⟨b, off, rfl, -, -, -, hbl, hat⟩ := Crow.opn hp h0
  have HAT := Lib.hid hat
  clear hat hp hk hr hg
  go_enter Try.func17, Try.ntmps17
  go_wp2_with (at_builtin; refine wpList_append_row (C := chC) rfl (.tmp 12) (.tmp 13) 23 rfl w.heap.size 49 i0 (cv noChg) 56 Try.underlying23 hi hz0 hz1 hz2 rfl _ _ _ rfl HO.out _ p rfl HP0.out (by unfold maxLen; simp; omega) (by simp; omega) (by simp) ?_; intro v3 w3 hown3 hgrow3)
  have hB3 : Below w.heap.size w w3 := (kbelow_one w (.cells #[] 49)).grown hgrow3 (by simp) (fun k hk => own_base HO.out hk)
  have hg3 : Own6 w w3 v3 p := by
    have h := hown3
    simp only [Nat.zero_add, List.nil_append] at h
    exact h
  have HI := Lib.hid (show RM ks p 0 0 [] w w p v3 w3 from ⟨RC.init HR.out, hg3, hB3⟩)
  clear hown3 hgrow3 hg3 hB3
  go_loopw [6, 7] (fun s6 s7 wr => ∃ (i : Nat) (out : List Chg), i ≤ p.length ∧ s7 = .int .i64 i ∧ Hid (RM ks p i 0 [] w w out s6 wr)) (fun _ s7 _ => p.length - (intOf s7).toNat)
  case atStart => exact ⟨0, p, Nat.zero_le _, rfl, HI⟩
  case round =>
    obtain ⟨i, out, hip, rfl, HM⟩ := hrel
    by_cases hlt : i < p.length
    · obtain ⟨c0, c1, c2, c3, c4, c5⟩ := (HAT.out i hlt).below HM.out.bel hbl
      have hsz := HM.out.bel.size
      have HSK := Lib.hid (fun h => HM.out.rc.skip hlt h)
      have HGR := Lib.hid (rgroup_any v ks p[i].key wr (HK.out.below HM.out.bel (Nat.le_refl _)) hl HG.out)
      have hgl := grpOf_len hl HG.out p[i].key
      have HOU := Lib.hid (fun out h1 h2 => RC.outer (out := out) HG.out HR.out hlt h1 hgl h2)
      have HBD := Lib.hid (fun o d h1 h2 h3 h4 => (cE_no (odd_bad (o := o) (d := d) HG.out (List.getElem_mem hlt) h1 h2 h3 h4)))
      by_cases hgn : p[i].g = true
      · rw [hgn] at c1
        have HN := Lib.hid (HSK.out hgn)
        clear HSK HOU HBD HGR hgn
        go_wp2
        go_roundw
        case rel => exact ⟨i + 1, out, by omega, by go_num, Lib.hid ⟨HN.out, HM.out.own, HM.out.bel⟩⟩
        case measure => simp [intOf]; omega
      · have hgn : p[i].g = false := by simpa using hgn
        rw [hgn] at c1
        have HOU := Lib.hid (fun out => HOU.out out hgn)
        have HBD := Lib.hid (fun o d => HBD.out o d hgn)
        clear HSK hgn
        generalize grpOf ks p[i].key = xs at *
        go_wp2_with (go_at_call 41; (with_reducible refine HGR.out.mono ?_); rintro e w4 ⟨gv, rfl, hown4, hb4⟩; have HX4 := Lib.hid (Ints.of_owns hown4).1; have HB4 := Lib.hid (below_add HM.out.bel hb4 HM.out.bel.size); have HM4 := Lib.hid (show RM ks p i 0 xs w w4 out u6 w4 from ⟨HM.out.rc.inner, owns_below HM.out.own hb4, Below.refl _ _⟩); clear hown4 hb4; obtain ⟨ga, gcap, rfl⟩ := HX4.out.shape)
        have hxl := HX4.out.len
        go_loopw [6, 9] (fun s6 s9 wr2 => ∃ (j : Nat) (out : List Chg), j ≤ xs.length ∧ s9 = .int .i64 j ∧ Hid (RM ks p i j xs w w4 out s6 wr2)) (fun _ s9 _ => xs.length - (intOf s9).toNat)
        case atStart => exact ⟨0, out, Nat.zero_le _, rfl, HM4⟩
        case round =>
          obtain ⟨j, out2, hj, rfl, HJ⟩ := hrel
          by_cases hjt : j < xs.length
          · obtain ⟨xb, xo, rfl, -, -, -, hxc⟩ := HX4.out.opened (by omega)
            have hxb : xb < w4.heap.size := World.block_lt_of_cell? _ _ (hxc 0 (by omega))
            have hxj := (HJ.out.bel.cell (p := ⟨xb, xo + j, none⟩) hxb).trans (hxc j hjt)
            have HBJ := Lib.hid (HB4.out.trans (HJ.out.bel.mono HB4.out.size))
            have HF := rfind6_any _ p (xs.getD j 0) _ (HP.out.below HBJ.out (Nat.le_refl _))
            have hoL := HJ.out.rc.len
            have hrL := HJ.out.rc.rise
            have HPU := Lib.hid (fun W (h : Crow W u6 out2) => rput_any u6 out2 (goneC (xs.getD j 0)) W h (by omega))
            rw [pdone_put _ hrL] at HPU
            have hHA := fun d => HJ.out.rc.has hjt (d := d)
            have hPT := HJ.out.rc.puts hjt
            have hmem : xs.getD j 0 ∈ xs := by have e : xs.getD j 0 = xs[j] := by simp [List.getD, hjt]
                                               rw [e]; exact List.getElem_mem hjt
            have HB1 := Lib.hid (fun d => HBD.out (xs.getD j 0) d hmem)
            generalize xs.getD j 0 = o at *
            cases hf : getC p o with
            | none =>
              rw [getCV_none hf] at HF
              have HF := Lib.hid HF
              have HN := Lib.hid (hPT hf)
              clear hHA hPT hf hmem
              go_wp2_with (first
                | (go_at_call 42; (with_reducible refine HF.out.mono ?_); rintro e w5 ⟨rfl, hb5⟩; have HB5 := Lib.hid (hb5.alloc hb5.size (.cells (cca noChg) 49)); have hx5 := (HB5.out.cell (p := ⟨xb, xo + j, none⟩) (World.block_lt_of_cell? _ _ hxj)).trans hxj; have HC5 := Lib.hid (own6_row (owns_below HJ.out.own HB5.out)); clear hb5)
                | (go_at_call 43; (with_reducible refine (HPU.out _ HC5.out).mono ?_); rintro e w6 ⟨u7, rfl, ho6, hb6⟩; have HB6 := Lib.hid (below_add HB5.out hb6 HB5.out.size); have HO6 := Lib.hid (owns_mono ho6 (show w.heap.size ≤ _ from Nat.le_trans HBJ.out.size HB5.out.size)); clear ho6 hb6))
              go_roundw
              case rel => exact ⟨j + 1, _, by omega, by go_num, Lib.hid ⟨HN.out, HO6.out, below_add HJ.out.bel HB6.out HJ.out.bel.size⟩⟩
              case measure => simp [intOf]; omega
            | some d =>
              rw [getCV_some hf] at HF
              have HF := Lib.hid HF
              have hHA := hHA d hf
              have hB1 := HB1.out d
              clear hPT HB1
              obtain ⟨d1, d2, d3, d4, d5, d6⟩ := d
              cases d2
              · have hb := hB1 hf rfl
                have HE := Lib.hid hb.1
                have HL := Lib.hid hb.2
                clear hb hHA hB1 hf hmem
                go_wp2_with (go_at_call 42; (with_reducible refine HF.out.mono ?_); rintro e w5 ⟨rfl, hb5⟩; have HB5 := Lib.hid (hb5.alloc hb5.size (.cells (cca ⟨d1, false, d3, d4, d5, d6⟩) 49)); clear hb5)
                go_ret2
                exact ⟨.slice none 0 0, by rw [HE.out]; rfl, by rw [HL.out]; exact own6_nil _ _, below_add HBJ.out HB5.out HBJ.out.size⟩
              · have HN := Lib.hid (hHA rfl)
                clear hHA hB1 hf hmem
                go_wp2_with (go_at_call 42; (with_reducible refine HF.out.mono ?_); rintro e w5 ⟨rfl, hb5⟩; have HB5 := Lib.hid (hb5.alloc hb5.size (.cells (cca ⟨d1, true, d3, d4, d5, d6⟩) 49)); clear hb5)
                go_roundw
                case rel => exact ⟨j + 1, out2, by omega, by go_num, Lib.hid ⟨HN.out, owns_below HJ.out.own HB5.out, below_add HJ.out.bel HB5.out HJ.out.bel.size⟩⟩
                case measure => simp [intOf]; omega
          · obtain rfl : j = xs.length := by omega
            have HN := Lib.hid (HOU.out _ HJ.out.rc)
            go_wp2
            go_roundw
            case rel => exact ⟨i + 1, out2, by omega, by go_num, Lib.hid ⟨HN.out, HJ.out.own, HB4.out.trans (HJ.out.bel.mono HB4.out.size)⟩⟩
            case measure => simp [intOf]; omega
    · obtain rfl : i = p.length := by omega
      obtain ⟨he, hL⟩ := HM.out.rc.done HG.out HR.out
      have HE := Lib.hid he
      have HL := Lib.hid hL
      clear he hL
      go_wp2
      go_ret2
      exact ⟨_, by rw [HE.out]; rfl, by rw [HL.out]; exact HM.out.own, HM.out.bel⟩
set_option maxRecDepth 100000 in
theorem rcomplete_none (v u : Value) (ks : List Key) (w : World) (hp : Crow w u []) :
    Calls Try.prog 17 #[v, u] w fun e w' => ∃ u', e = .returned (.tuple #[u', .int .i64 (cE ks [])]) ∧ Own6 w w' u' (cL ks []) ∧ Below w.heap.size w w' := by
  obtain ⟨i0, hi, hz0, hz1, hz2⟩ := info_ch
  have HP0 := Lib.hid (show Crow (w.alloc (.cells #[] 49)) u [] from hp.below (kbelow_one w _) (Nat.le_refl _))
  have HO := Lib.hid (own_none w 49 6)
  have HD := Lib.hid (show cE ks [] = 0 ∧ cL ks [] = [] from by
    obtain ⟨h1, h2⟩ := cE_yes (ks := ks) (p := []) List.nodup_nil
    refine ⟨h1, ?_⟩
    rw [h2]
    have e : goneL ks [] = [] := by simp [goneL]
    show comp (goneL ks []) [] = []
    rw [e]; rfl)
  obtain ⟨ua, ucap, rfl⟩ := hp.shape
  clear hp
  go_enter Try.func17, Try.ntmps17
  go_wp2_with (at_builtin; refine wpList_append_row (C := chC) rfl (.tmp 12) (.tmp 13) 23 rfl w.heap.size 49 i0 (cv noChg) 56 Try.underlying23 hi hz0 hz1 hz2 rfl _ _ _ rfl HO.out _ [] rfl HP0.out (by unfold maxLen; simp) (by simp) (by simp) ?_; intro v3 w3 hown3 hgrow3)
  have HB3 := Lib.hid (show Below w.heap.size w w3 from (kbelow_one w (.cells #[] 49)).grown hgrow3 (by simp) (fun k hk => own_base HO.out hk))
  have HG3 := Lib.hid (show Own6 w w3 v3 [] from hown3)
  clear hown3 hgrow3
  refine wp_loop_rounds 1 ?_
  rw [rounds_succ]
  go_wp2
  go_ret2
  exact ⟨_, by rw [HD.out.1]; rfl, by rw [HD.out.2]; exact HG3.out, HB3.out⟩
/-- The reference's Complete, of a patch whose keys rise. -/
theorem rcomplete_any (v u : Value) (ks : List Key) (p : List Chg) (w : World) (hk : Krow w v ks) (hl : ks.length ≤ 64) (hg : Good ks) (hp : Crow w u p) (hr : RiseC p) (hlp : p.length ≤ 1000) :
    Calls Try.prog 17 #[v, u] w fun e w' => ∃ u', e = .returned (.tuple #[u', .int .i64 (cE ks p)]) ∧ Own6 w w' u' (cL ks p) ∧ Below w.heap.size w w' := by
  by_cases h0 : 0 < p.length
  · exact rcomplete_some v u ks p w hk hl hg hp hr hlp h0
  · obtain rfl : p = [] := List.eq_nil_of_length_eq_zero (by omega)
    exact rcomplete_none v u ks w hp
end Go.Proofs.Ythcakinllcffoaa
