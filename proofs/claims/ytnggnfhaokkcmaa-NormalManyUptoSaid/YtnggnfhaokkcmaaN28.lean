
import Derived.Test.YtnggnfhaokkcmaaN27
/- N28: NormalMany -/
namespace Go.Proofs.Ytnggnfhaokkcmaa
open Go.RowKit
set_option linter.unusedVariables false
set_option maxRecDepth 100000

/-- An op of y or gap. -/
structure El (w0 : World) (z : Oz) : Prop where
  ok : OpOk w0 z
  sm : Sm z
  n : z.n ≤ 1099511627776
/-- What NormalMany has told so far. -/
structure ManyW (w0 : World) (ba bn b1 b2 : Nat) (ah : Bool) (zs : List Oz) (k : Nat) (vy vg : Value) (Y G : List Oz) (n : Int) (W : World) : Prop where
  m : MY w0 ba bn b1 b2 ah vy vg Y G n W
  y : Y.map Oz.o = (manyS ah ((zs.take k).map Oz.o)).y
  g : G.map Oz.o = (manyS ah ((zs.take k).map Oz.o)).gap
  gn : n = (manyS ah ((zs.take k).map Oz.o)).gone
  eY : ∀ z ∈ Y, El w0 z
  eG : ∀ z ∈ G, El w0 z
  len : Y.length + G.length ≤ 2 * k
  rs : sumR (Y.map Oz.o) + sumR (G.map Oz.o) ≤ sumR ((zs.take k).map Oz.o)
  n0 : 0 ≤ n
  n1 : n ≤ k * 536870912
def ManyP (w0 : World) (ba bn b1 b2 : Nat) (ah : Bool) (zs : List Oz) (k : Nat) (W : World) : Prop := ∃ vy vg Y G n, ManyW w0 ba bn b1 b2 ah zs k vy vg Y G n W
theorem take_o {zs : List Oz} {k : Nat} (hk : k < zs.length) : (zs.take (k + 1)).map Oz.o = (zs.take k).map Oz.o ++ [zs[k].o] := by
  rw [List.take_succ_eq_append_getElem hk, List.map_append]; rfl
theorem many_new {w1 : World} {ba : Nat} {ah : Bool} (hb : ba < w1.heap.size) (ca : Cb ba 4 #[.bool ah] w1) (zs : List Oz) : ManyP w1 ba (w1.heap.size + 1 + 1) w1.heap.size (w1.heap.size + 1) ah zs 0 (((w1.alloc (.cells #[.slice none 0 0] 23)).alloc (.cells #[.slice none 0 0] 23)).alloc (.cells #[.int .i64 0] 3)) := by
  have k1 := kbelow_one w1 (.cells #[.slice none 0 0] 23)
  have c1 := cb_new w1 23 #[.slice none 0 0]
  have s1 : (w1.alloc (.cells #[.slice none 0 0] 23)).heap.size = w1.heap.size + 1 := by simp
  generalize w1.alloc (.cells #[.slice none 0 0] 23) = w2 at *
  have k2 := kbelow_one w2 (.cells #[.slice none 0 0] 23)
  have c2 := cb_new w2 23 #[.slice none 0 0]
  have s2 : (w2.alloc (.cells #[.slice none 0 0] 23)).heap.size = w2.heap.size + 1 := by simp
  generalize w2.alloc (.cells #[.slice none 0 0] 23) = w3 at *
  have k3 := kbelow_one w3 (.cells #[.int .i64 0] 3)
  have c3 := cb_new w3 3 #[.int .i64 0]
  generalize w3.alloc (.cells #[.int .i64 0] 3) = w4 at *
  rw [s1] at c2 s2
  rw [s2] at c3
  have k13 := below_add k1 k2 k1.size
  refine ⟨.slice none 0 0, .slice none 0 0, [], [], 0, ⟨below_add k13 k3 k13.size, (c1.below k2).below k3, c2.below k3, c3, ((ca.below k1).below k2).below k3, World.ownsRow_nil _ _ _ _, World.ownsRow_nil _ _ _ _, fun g hg => by simp [Value.ownBlock] at hg, fun _ => rfl, by omega, by omega, by omega, by omega⟩, rfl, rfl, rfl, by simp, by simp, by simp, by simp [sumR], by omega, by omega⟩
theorem flushZ_len (ah : Bool) (G : List Oz) (n : Int) : (flushZ ah G n).length ≤ G.length + 1 := by
  unfold flushZ
  cases ah <;> by_cases h : 0 < n <;> simp [h]
theorem flushZ_rs (ah : Bool) (G : List Oz) (n : Int) : sumR ((flushZ ah G n).map Oz.o) = sumR (G.map Oz.o) := by
  unfold flushZ
  cases ah <;> by_cases h : 0 < n <;> simp [h, sumR, Oz.o]
theorem el_zD {w0 : World} {n : Int} (h : n ≤ 1099511627776) : El w0 (zD n) := ⟨okD w0 n, ⟨by simp, by simp, by simp⟩, h⟩
theorem flushZ_el {w0 : World} {ah : Bool} {G : List Oz} {n : Int} (hG : ∀ z ∈ G, El w0 z) (hn : n ≤ 1099511627776) : ∀ z ∈ flushZ ah G n, El w0 z := by
  intro z hz
  have : z ∈ G ∨ z = zD n := by
    unfold flushZ at hz
    cases ah <;> by_cases h : 0 < n <;> simp [h] at hz
    all_goals first | exact .inl hz | (rcases hz with hz | hz; · first | exact .inl hz | exact .inr hz
                                       · first | exact .inr hz | exact .inl hz)
  rcases this with h | h
  · exact hG z h
  · rw [h]; exact el_zD hn
section
variable {w0 W W3 : World} {ba bn b1 b2 : Nat} {ah : Bool} {zs : List Oz} {k : Nat} {vy vg vy2 vg2 : Value} {Y G : List Oz} {n : Int} {z : Oz}
theorem manyS_take (hk : k < zs.length) : manyS ah ((zs.take (k + 1)).map Oz.o) = manyStep ah (manyS ah ((zs.take k).map Oz.o)) zs[k].o := by rw [take_o hk, manyS_snoc]
theorem sumR_takeS (hk : k < zs.length) : sumR ((zs.take (k + 1)).map Oz.o) = sumR ((zs.take k).map Oz.o) + zs[k].rs.length := by rw [take_o hk, sumR_app]; simp [sumR, Oz.o]
theorem ManyW.ret (h : ManyW w0 ba bn b1 b2 ah zs k vy vg Y G n W) (hk : k < zs.length) (hl : zs.length ≤ 40) (h1 : zs[k].k = 1) (hz : El w0 z) (ho : z.o = zs[k].o) (hm : MY w0 ba bn b1 b2 ah vy2 vg2 (Y ++ flushZ ah G n ++ [z]) [] 0 W3) : ManyP w0 ba bn b1 b2 ah zs (k + 1) W3 := by
  have hn := h.n1
  have hn2 : n ≤ 1099511627776 := by omega
  have hS : manyS ah ((zs.take (k + 1)).map Oz.o) = ⟨(manyS ah ((zs.take k).map Oz.o)).y ++ flushY ah (manyS ah ((zs.take k).map Oz.o)).gap (manyS ah ((zs.take k).map Oz.o)).gone ++ [zs[k].o], [], 0⟩ := by
    rw [manyS_take hk, manyStep, if_pos (show zs[k].o.k = 1 from h1)]
  have hr := congrArg (fun o : Opn => o.rs.length) ho
  simp only [Oz.o] at hr
  refine ⟨vy2, vg2, _, [], 0, hm, ?_, ?_, ?_, ?_, by simp, ?_, ?_, by omega, by omega⟩
  · rw [hS, List.map_append, List.map_append, flushZ_o, h.y, h.g, ← h.gn, List.map_singleton, ho]
  · rw [hS]; rfl
  · rw [hS]
  · intro y hy
    rcases List.mem_append.1 hy with hy | hy
    · rcases List.mem_append.1 hy with hy | hy
      · exact h.eY y hy
      · exact flushZ_el h.eG hn2 y hy
    · obtain rfl := List.mem_singleton.1 hy; exact hz
  · have := h.len
    have := flushZ_len ah G n
    simp only [List.length_append, List.length_cons, List.length_nil]
    omega
  · have e := h.rs
    rw [sumR_takeS hk, List.map_append, List.map_append, sumR_app, sumR_app, flushZ_rs]
    have : sumR ([z].map Oz.o) = z.rs.length := by simp [sumR, Oz.o]
    have e2 : sumR (([] : List Oz).map Oz.o) = 0 := rfl
    omega
theorem ManyW.ins (h : ManyW w0 ba bn b1 b2 ah zs k vy vg Y G n W) (hk : k < zs.length) (h2 : zs[k].k = 2) (hz : El w0 zs[k]) (hm : MY w0 ba bn b1 b2 ah vy2 vg2 Y (G ++ [zs[k]]) n W3) : ManyP w0 ba bn b1 b2 ah zs (k + 1) W3 := by
  have hS : manyS ah ((zs.take (k + 1)).map Oz.o) = ⟨(manyS ah ((zs.take k).map Oz.o)).y, (manyS ah ((zs.take k).map Oz.o)).gap ++ [zs[k].o], (manyS ah ((zs.take k).map Oz.o)).gone⟩ := by
    rw [manyS_take hk, manyStep, if_neg (show ¬ zs[k].o.k = 1 by show ¬ zs[k].k = 1; omega), if_pos (show zs[k].o.k = 2 from h2)]
  have hn := h.n1
  refine ⟨vy2, vg2, _, _, n, hm, ?_, ?_, ?_, h.eY, ?_, ?_, ?_, h.n0, by omega⟩
  · rw [hS]; exact h.y
  · rw [hS, List.map_append, h.g]; rfl
  · rw [hS]; exact h.gn
  · intro y hy
    rcases List.mem_append.1 hy with hy | hy
    · exact h.eG y hy
    · obtain rfl := List.mem_singleton.1 hy; exact hz
  · have := h.len
    simp only [List.length_append, List.length_cons, List.length_nil]
    omega
  · have e := h.rs
    rw [sumR_takeS hk, List.map_append, sumR_app]
    have : sumR ([zs[k]].map Oz.o) = zs[k].rs.length := by simp [sumR, Oz.o]
    omega
theorem ManyW.del (h : ManyW w0 ba bn b1 b2 ah zs k vy vg Y G n W) (hk : k < zs.length) (hf : FP zs[k]) (h1 : ¬ zs[k].k = 1) (h2 : ¬ zs[k].k = 2) (hm : MY w0 ba bn b1 b2 ah vy2 vg2 Y G (n + zs[k].n) W3) : ManyP w0 ba bn b1 b2 ah zs (k + 1) W3 := by
  have hS : manyS ah ((zs.take (k + 1)).map Oz.o) = ⟨(manyS ah ((zs.take k).map Oz.o)).y, (manyS ah ((zs.take k).map Oz.o)).gap, (manyS ah ((zs.take k).map Oz.o)).gone + zs[k].n⟩ := by
    rw [manyS_take hk, manyStep, if_neg (show ¬ zs[k].o.k = 1 from h1), if_neg (show ¬ zs[k].o.k = 2 from h2)]; rfl
  have hn := h.n1
  have hn0 := h.n0
  have hz := hf.n
  have hz0 : 0 ≤ zs[k].n := hf.tm.nn
  refine ⟨vy2, vg2, _, _, _, hm, ?_, ?_, ?_, h.eY, h.eG, ?_, ?_, by omega, by push_cast; omega⟩
  · rw [hS]; exact h.y
  · rw [hS]; exact h.g
  · rw [hS, h.gn]
  · have := h.len; omega
  · have e := h.rs
    rw [sumR_takeS hk]
    omega
end
theorem ManyW.of {w0 W0 W : World} {ba bn b1 b2 : Nat} {ah : Bool} {zs : List Oz} {vy vg vy2 vg2 : Value} {Y G G2 : List Oz} {n n2 : Int} (h : ManyW w0 ba bn b1 b2 ah zs zs.length vy vg Y G n W0) (h40 : zs.length ≤ 40) (hi : LIn zs) (ht : Tame zs) (hm : MY w0 ba bn b1 b2 ah vy2 vg2 (Y ++ flushZ ah G n) G2 n2 W) :
    Calls Try.prog 10 #[vy2] W fun e w' => ∃ a l c xs, e = .returned (.slice a l c) ∧ xs.map Oz.o = formO (zs.map Oz.o) ∧ Orow w' (.slice a l c) xs ∧ Below W.heap.size W w' := by
  have hn := h.n1
  have hel : ∀ z ∈ Y ++ flushZ ah G n, El w0 z := fun z hz => by
    rcases List.mem_append.1 hz with hz | hz
    · exact h.eY z hz
    · exact flushZ_el h.eG (by omega) z hz
  have hrow : Orow W vy2 (Y ++ flushZ ah G n) := ⟨(Row.of_owns (C := ozC) hm.oy).1, fun z hz => (hel z hz).ok.below hm.bel⟩
  have hlen := h.len
  have hfl := flushZ_len ah G n
  have hrs := h.rs
  have hrs2 := hi.rs
  rw [List.take_length] at hrs
  have hin : In (Y ++ flushZ ah G n) := ⟨fun z hz => (hel z hz).sm, fun z hz => by have := (hel z hz).n; omega, by rw [List.length_append]; omega, by rw [List.map_append, sumR_app, flushZ_rs]; omega⟩
  have he : formO ((Y ++ flushZ ah G n).map Oz.o) = formO (zs.map Oz.o) := by
    have hy := h.y
    have hg := h.g
    have hgn := h.gn
    rw [List.take_length] at hy hg hgn
    rw [← many_form ah ht.tm (by have := ht.n; omega), List.map_append, flushZ_o, hy, hg, hgn]
    rfl
  refine (of_any vy2 _ W hrow hin).mono fun e w' ⟨v, xs, h1, h2, h3, h4⟩ => ?_
  obtain ⟨a, c, rfl, -, -⟩ := h3.shape
  exact ⟨a, _, c, xs, h1, h2.trans he, h3.orow, h4⟩
theorem oat_cb {b : Nat} {t : TypeId} {z : Oz} {w : World} (h : Cb b t z.cs w) : OAt b 0 z w := ⟨h.cell 0, h.cell 1, h.cell 2, h.cell 3, h.cell 4⟩
/-- The op with an empty patch of its own, as its variable then holds it. -/
@[reducible] def emptyP (z : Oz) (e : Nat) : Oz := { z with pa := some ⟨e, 0, none⟩, pc := 0, pt := [] }
theorem emptyP_o {z : Oz} (h : z.pt.length = 0) (e : Nat) : (emptyP z e).o = z.o := by
  have : z.pt = [] := List.eq_nil_of_length_eq_zero h
  simp [Oz.o, this]
theorem emptyP_el {w0 : World} {z : Oz} (h : El w0 z) (e : Nat) : El w0 (emptyP z e) :=
  ⟨⟨h.ok.r, h.ok.s, .inl ⟨some ⟨e, 0, none⟩, 0, rfl, rfl, by simp [maxLen], by simp⟩⟩, ⟨h.sm.r, h.sm.s, by simp⟩, h.n⟩
theorem box_empty (w : World) (z : Oz) (t : TypeId) : Below w.heap.size w ((w.alloc (.cells z.cs 34)).alloc (.cells #[] t)) ∧ OAt w.heap.size 0 z ((w.alloc (.cells z.cs 34)).alloc (.cells #[] t)) := by
  have h1 := kbelow_one w (.cells z.cs 34)
  exact ⟨h1.alloc h1.size _, (OAt.new w z 34).below (kbelow_one _ _)⟩

set_option maxHeartbeats 4000000 in
theorem many_walk (b0 : Option Addr) (len0 cap0 : Nat) (ks : List Key) (b1 : Option Addr) (len1 cap1 : Nat) (zs : List Oz) (ah : Bool) (w : World) (hk : Krow w (.slice b0 len0 cap0) ks) (hx : Orow w (.slice b1 len1 cap1) zs) (hW : ∀ z ∈ zs, OpW z) (hz : totO zs ≤ 1048576) :
    Calls Try.prog 6 #[.slice b0 len0 cap0, .slice b1 len1 cap1, .bool ah] w fun e w' => e = .returned (.bool true) ∧ Below w.heap.size w w' := by
  have hb0 := kbelow_one w (.cells #[.bool ah] 4)
  have HB0 := Lib.hid hb0
  have HL := Lib.hid (law_in hW hz)
  have HT := Lib.hid (tame_h (hk.below hb0 (Nat.le_refl _)) (hx.below hb0) hW hz)
  have HK := Lib.hid (fun W => known16_any W)
  have HX := Lib.hid (fun W (hb : Below w.heap.size w W) => hx.below hb)
  have HCA := Lib.hid (cb_new w 4 #[.bool ah])
  obtain ⟨b1', cap1', e1⟩ := hx.shape
  injection e1 with e1 e2 e3
  subst e1 e2 e3
  clear hk hx hW hz hb0
  go_enter Try.func6, Try.ntmps6
  go_wp2_with fail
  go_at_call 8
  refine HT.out.mono ?_
  rintro e w1 ⟨⟨b, rfl, hb⟩, hB⟩
  have HB1 := Lib.hid (below_add HB0.out hB HB0.out.size)
  cases b
  · clear hb hB HT
    go_wp2_with (go_at_call 13; (with_reducible refine (HK.out _).mono ?_); rintro e w99 ⟨rfl, hb⟩; have HB99 := Lib.hid (below_add HB1.out hb HB1.out.size); clear hb)
    go_ret
    exact ⟨rfl, HB99.out⟩
  have HTM := Lib.hid (tame_yes (hb rfl) HL.out.len)
  have HFP := Lib.hid (hb rfl)
  have hl1 := HL.out.len
  by_cases h40 : 40 < zs.length
  · have d1 : decide ((40 : Int) < (zs.length : Int)) = true := decide_eq_true (by omega)
    clear hb hB HT
    go_wp2_with (go_at_call 13; (with_reducible refine (HK.out _).mono ?_); rintro e w99 ⟨rfl, hb⟩; have HB99 := Lib.hid (below_add HB1.out hb HB1.out.size); clear hb)
    go_ret
    exact ⟨rfl, HB99.out⟩
  have d1 : decide ((40 : Int) < (zs.length : Int)) = false := decide_eq_false (by omega)
  have HX1 := Lib.hid (HX.out _ HB1.out)
  have HP0 := Lib.hid (many_new (Nat.lt_of_lt_of_le (by simp) hB.size) (HCA.out.below hB) zs)
  clear hb hB HT
  go_wp2_with fail
  have HAT := Lib.hid (fun (h0 : 0 < zs.length) => HX1.out.row.ats h0)
  have h40' : zs.length ≤ 40 := by omega
  go_loopw [26] (fun i wr => ∃ k : Nat, k ≤ zs.length ∧ i = .int .i64 k ∧ Hid (ManyP w1 w.heap.size (w1.heap.size + 1 + 1) w1.heap.size (w1.heap.size + 1) ah zs k wr)) (fun i _ => zs.length - (intOf i).toNat)
  case atStart => exact ⟨0, Nat.zero_le _, rfl, HP0⟩
  case round =>
    clear HP0
    obtain ⟨k, hk, rfl, HP⟩ := hrel
    obtain ⟨vy, vg, Y, G, n, hm⟩ := HP.out
    have HM := Lib.hid hm
    have hml := hm.len
    clear hm HP
    obtain ⟨wo, hwo⟩ : ∃ x : World, x = wr := ⟨_, rfl⟩
    subst hwo
    by_cases hlt : k < zs.length
    · obtain ⟨g1, o1, rfl, -, -, -, hbl, hat⟩ := HAT.out (by omega)
      have HLT := Lib.hid hlt
      have HC := Lib.hid (fun W (hb : Below w1.heap.size w1 W) => (hat k hlt).below hb)
      have HZF := Lib.hid (HFP.out _ (List.getElem_mem hlt))
      have HEL := Lib.hid (show El w1 zs[k] from ⟨HX1.out.ok _ (List.getElem_mem hlt), HL.out.i.sm _ (List.getElem_mem hlt), by have := (HFP.out _ (List.getElem_mem hlt)).n; omega⟩)
      have HRET := Lib.hid (fun h1 z hz ho vy2 vg2 W3 hm => HM.out.ret hlt h40' h1 (z := z) hz ho (vy2 := vy2) (vg2 := vg2) (W3 := W3) hm)
      have HINS := Lib.hid (fun h2 vy2 vg2 W3 hm => HM.out.ins hlt h2 HEL.out (vy2 := vy2) (vg2 := vg2) (W3 := W3) hm)
      have HDEL := Lib.hid (fun h1 h2 vy2 vg2 W3 hm => HM.out.del hlt HZF.out h1 h2 (vy2 := vy2) (vg2 := vg2) (W3 := W3) hm)
      have HMY := Lib.hid HM.out.m
      have hn0 := HM.out.n0
      have hn1 := HM.out.n1
      have hzn := HZF.out.n
      have hzn0 := HZF.out.tm.nn
      clear HM hat HAT
      generalize zs[k] = z at *
      obtain ⟨c0, c1, c2, c3, c4⟩ := HC.out wo HMY.out.bel
      by_cases k1 : z.k = 1
      · have q1 : (z.k == 1) = true := by simpa using k1
        have HF := Lib.hid (flush_any _ _ _ _ _ _ _ _ _ _ _ wo HMY.out (by omega))
        have HR := Lib.hid (HRET.out k1)
        clear HRET HINS HDEL k1 HMY
        go_upto_region 14 with (go_at_call 23; refine HF.out.mono ?_; rintro e w2 ⟨rfl, vy2, hm2⟩; have HM2 := Lib.hid hm2; obtain ⟨d0, d1, d2, d3, d4⟩ := HC.out w2 hm2.bel; clear hm2 c0 c1 c2 c3 c4)
        obtain ⟨ya, yc, rfl, -, -⟩ := own_shape HM2.out.oy
        obtain ⟨ly, hly⟩ : ∃ l, (Y ++ flushZ ah G n).length = l := ⟨_, rfl⟩
        rw [hly] at HM2
        have hlb : ly ≤ 200 := by have := flushZ_len ah G n; rw [← hly]; simp; omega
        obtain ⟨i0, hi, hz0, hz1, hz2⟩ := info_op
        by_cases hp : z.pt.length = 0
        · have HEO := Lib.hid (fun e => emptyP_o (z := z) hp e)
          have HX3 := Lib.hid (OAt.new w2 z 34)
          obtain ⟨x0, x1, x2, x3, x4⟩ := HX3.out
          rw [hp] at x4
          have hp2 : ((z.pt.length : Int) == 0) = true := by rw [hp]; rfl
          have HBX := Lib.hid (box_empty w2 (emptyP z (w2.heap.size + 1)) 41)
          clear d0 d1 d2 d3 d4
          go_upto_region 16 with fail
          have HX4 := Lib.hid HBX.out.2
          have HM4 := Lib.hid (HM2.out.below HBX.out.1)
          clear HBX
          generalize hW4 : (w2.alloc (.cells _ 34)).alloc _ = W4 at *
          clear x0 x1 x2 x3 x4 hW4 HM2 HX3
          have HZR := Lib.hid (Row.built (C := ozC) W4 34 [(emptyP z (w2.heap.size + 1))] (by simp [maxLen]))
          have HA := Lib.hid (HM4.out.below (kbelow_one W4 (.cells (Oz.cs (emptyP z (w2.heap.size + 1))) 34)))
          have HSZ := Lib.hid HA.out.size
          have HOY := Lib.hid (by have := HA.out.oy; rwa [hly] at this)
          obtain ⟨cy, -, -, -, fy, -, -⟩ := HM4.out.cells
          obtain ⟨x0, x1, x2, x3, x4⟩ := HX4.out
          go_wp2_with (at_builtin; go_loud (refine wpList_append_rowL (C := ozC) rfl (.tmp 55) (.tmp 57) 23 rfl w1.heap.size 34 i0 _ 88 Try.underlying23 hi hz0 hz1 hz2 rfl (.slice ya ly yc) ly (fl ozC (Y ++ flushZ ah G n)) rfl HOY.out _ [(emptyP z (w2.heap.size + 1))] rfl HZR.out (by simp) (by unfold maxLen; (try simp); omega) (by (try simp); omega) HSZ.out ?_); intro g3 cap3 w3 hown3 hgrow3 hlies3 hlt3; obtain ⟨hwc, hwf⟩ := HA.out.ptr1 hgrow3)
          obtain ⟨ya2, ly2, yc2, hly2, hm3⟩ := HA.out.app hgrow3 (ys := [(emptyP z (w2.heap.size + 1))]) (m := 1) hly rfl hown3 hlies3
          have HN := Lib.hid (HR.out _ (emptyP_el HEL.out _) (HEO.out _) _ _ _ hm3)
          clear hm3 hown3 hgrow3 hlies3 hlt3
          go_roundw
          case rel => exact ⟨k + 1, HLT.out, by go_num, HN⟩
          case measure => have := HLT.out; simp [intOf]; omega
        · have hp2 : ((z.pt.length : Int) == 0) = false := by simpa using hp
          have HX4 := Lib.hid (OAt.new w2 z 34)
          have HM4 := Lib.hid (HM2.out.below (kbelow_one w2 (.cells z.cs 34)))
          obtain ⟨x0, x1, x2, x3, x4⟩ := HX4.out
          clear d0 d1 d2 d3 d4
          go_upto_region 16 with fail
          generalize hW4 : w2.alloc (.cells _ 34) = W4 at *
          clear x0 x1 x2 x3 x4 hW4 HM2
          have HZR := Lib.hid (Row.built (C := ozC) W4 34 [z] (by simp [maxLen]))
          have HA := Lib.hid (HM4.out.below (kbelow_one W4 (.cells (Oz.cs z) 34)))
          have HSZ := Lib.hid HA.out.size
          have HOY := Lib.hid (by have := HA.out.oy; rwa [hly] at this)
          obtain ⟨cy, -, -, -, fy, -, -⟩ := HM4.out.cells
          obtain ⟨x0, x1, x2, x3, x4⟩ := HX4.out
          go_wp2_with (at_builtin; go_loud (refine wpList_append_rowL (C := ozC) rfl (.tmp 55) (.tmp 57) 23 rfl w1.heap.size 34 i0 _ 88 Try.underlying23 hi hz0 hz1 hz2 rfl (.slice ya ly yc) ly (fl ozC (Y ++ flushZ ah G n)) rfl HOY.out _ [z] rfl HZR.out (by simp) (by unfold maxLen; (try simp); omega) (by (try simp); omega) HSZ.out ?_); intro g3 cap3 w3 hown3 hgrow3 hlies3 hlt3; obtain ⟨hwc, hwf⟩ := HA.out.ptr1 hgrow3)
          obtain ⟨ya2, ly2, yc2, hly2, hm3⟩ := HA.out.app hgrow3 (ys := [z]) (m := 1) hly rfl hown3 hlies3
          have HN := Lib.hid (HR.out _ HEL.out rfl _ _ _ hm3)
          clear hm3 hown3 hgrow3 hlies3 hlt3
          go_roundw
          case rel => exact ⟨k + 1, HLT.out, by go_num, HN⟩
          case measure => have := HLT.out; simp [intOf]; omega
      · have q1 : (z.k == 1) = false := by simpa using k1
        obtain ⟨i0, hi, hz0, hz1, hz2⟩ := info_op
        by_cases k2 : z.k = 2
        · have q2 : (z.k == 2) = true := by simpa using k2
          have HR := Lib.hid (HINS.out k2)
          obtain ⟨ga, gc, rfl, -, -⟩ := own_shape HMY.out.og
          obtain ⟨lg, hlg⟩ : ∃ l, G.length = l := ⟨_, rfl⟩
          rw [hlg] at HMY
          have hlb : lg ≤ 100 := by omega
          obtain ⟨-, cg, -, -, -, fg, -⟩ := HMY.out.cells
          have HA := Lib.hid (HMY.out.below (below_ad wo (.cells #[.int .u8 z.k, .int .i64 z.n, .slice z.ra z.rs.length z.rc, .slice z.sa z.st.length z.sc, .slice z.pa z.pt.length z.pc] 34)))
          have HZR := Lib.hid ((Row.built (C := ozC) wo 34 [z] (by simp [maxLen])).below (Below.refl _ _).drew (Nat.le_refl _))
          have HSZ := Lib.hid HA.out.size
          have HOG := Lib.hid (by have := HA.out.og; rwa [hlg] at this)
          obtain ⟨-, cg2, -, -, -, fg2, -⟩ := HA.out.cells
          clear HRET HINS HDEL k1 k2
          go_wp2
          go_region_law
            ((go_loud (refine step_append_rowL (C := ozC) (by rfl) (.tmp 61) (.tmp 66) 23 (by rfl) w1.heap.size 34 i0 _ 88 Try.underlying23 hi hz0 hz1 hz2 (by rfl) (.slice ga lg gc) lg (fl ozC G) (by rfl) HOG.out _ [z] (by rfl) HZR.out (by simp) (by unfold maxLen; (try simp); omega) (by (try simp); omega) HSZ.out ?_); intro g3 cap3 w3 hown3 hgrow3 hlies3 hlt3; obtain ⟨hwc, hwf⟩ := HA.out.ptr2 hgrow3))
          all_goals
            obtain ⟨vg2, hm3⟩ := HA.out.appG hgrow3 (ys := [z]) (m := 1) hlg rfl (by omega) hown3 hlies3
            have HN := Lib.hid (HR.out _ _ _ hm3)
            clear hm3 hown3 hgrow3 hlies3 hlt3
            go_wp2
            go_roundw
            case rel => exact ⟨k + 1, HLT.out, by go_num, HN⟩
            case measure => have := HLT.out; simp [intOf]; omega
        · have q2 : (z.k == 2) = false := by simpa using k2
          have HR := Lib.hid (HDEL.out k1 k2)
          obtain ⟨-, -, cn, -, -, -, fn⟩ := HMY.out.cells
          have hzn1 : 0 ≤ z.n := hzn0
          have HNM := Lib.hid (HR.out _ _ _ ((HMY.out.below (Below.refl _ _).drew).num (n + z.n)))
          have e3 : wrap64 (n + z.n) = n + z.n := by
            rw [show wrap64 (n + z.n) = IntKind.i64.wrap (n + z.n) from (Go.IntWalk.i64_left _).symm, IntKind.wrap_i64]; omega
          clear HRET HINS HDEL k1 k2
          go_wp2
          go_region_law (fail)
          all_goals
            go_wp2
            go_roundw
            case rel => exact ⟨k + 1, HLT.out, by go_num, HNM⟩
            case measure => have := HLT.out; simp [intOf]; omega
    · obtain rfl : k = zs.length := by omega
      have HF := Lib.hid (flush_any _ _ _ _ _ _ _ _ _ _ _ wo HM.out.m (by omega))
      have HBO := Lib.hid (below_add HB1.out HM.out.m.bel HB1.out.size)
      have HOF := Lib.hid (fun W vy2 hm2 => HM.out.of (W := W) (vy2 := vy2) (vg2 := .slice none 0 0) (G2 := []) (n2 := 0) h40' HL.out HTM.out hm2)
      have HOX := Lib.hid (fun W (hb : Below w.heap.size w W) => of_any _ zs W (HX.out W hb) HL.out.i)
      clear HM HAT hk hlt HX1 HFP
      go_upto_region 21 with (go_at_call 23; refine HF.out.mono ?_; rintro e w2 ⟨rfl, vy2, hm2⟩; have HM2 := Lib.hid hm2; clear hm2)
      obtain ⟨ya, yc, rfl, -, -⟩ := own_shape HM2.out.oy
      have HB2 := Lib.hid (below_add HB1.out HM2.out.bel HB1.out.size)
      have HO1 := Lib.hid (HOF.out _ _ HM2.out)
      obtain ⟨cy, -, -, -, -, -, -⟩ := HM2.out.cells
      clear HF HOF HM2
      generalize (Y ++ flushZ ah G n).length = ly at *
      go_wp2_with (first
        | (go_at_call 10; (with_reducible refine HO1.out.mono ?_); rintro e w3 ⟨a3, l3, c3, xs3, rfl, he3, ho3, hb3⟩; have HB3 := Lib.hid (below_add HB2.out hb3 HB2.out.size); have HX3 := Lib.hid (fun W (hb : Below w3.heap.size w3 W) => ho3.below hb); have HE3 := Lib.hid he3; have HO2 := Lib.hid (HOX.out _ HB3.out); clear ho3 he3 hb3 cy)
        | (go_at_call 10; (with_reducible refine HO2.out.mono ?_); rintro e w4 ⟨v4, xs4, rfl, he4, ho4, hb4⟩; have HB4 := Lib.hid (below_add HB3.out hb4 HB3.out.size); have HS := Lib.hid (same_yes (HX3.out _ hb4) ho4.orow (HE3.out.trans he4.symm)); clear ho4 he4 hb4)
        | (go_at_call 22; (with_reducible refine HS.out.mono ?_); rintro e w5 ⟨rfl, hb⟩; have HB5 := Lib.hid (below_add HB4.out hb HB4.out.size); clear hb)
        | (go_at_call 13; (with_reducible refine (HK.out _).mono ?_); rintro e w99 ⟨rfl, hb⟩; have HB99 := Lib.hid (below_add HB5.out hb HB5.out.size); clear hb))
      go_ret
      exact ⟨rfl, HB99.out⟩
end Go.Proofs.Ytnggnfhaokkcmaa
