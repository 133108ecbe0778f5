
import Derived.Test.YtclbjfeneegicaaB5
/- B6: put, in one law; blocks told one by one -/
namespace Go.Proofs.Ytclbjfeneegicaa
open Go.RowKit Go.Shelf
set_option linter.unusedVariables false
set_option maxRecDepth 100000
attribute [local go_sem] Oper.semAt_some

theorem nil_or_snoc {α : Type} (l : List α) : l = [] ∨ ∃ a b, l = a ++ [b] := by
  rcases List.eq_nil_or_concat l with h | ⟨a, b, h⟩
  · exact .inl h
  · exact .inr ⟨a, b, by rw [h, List.concat_eq_append]⟩
theorem bks_last (l0 : List Bz) (y : Bz) : ((l0 ++ [y]).map Bz.b).getLast? = some y.b := by simp
/-- put: so many places more behind proper blocks. -/
theorem put_any (B : Nat) (zs : List Bz) (v : Value) (n : Int) (xa : Option Addr) (xc : Nat) (s : List Att) (w : World) {p : List (List Att)} (h : Zown B w v zs) (h0 : zs = [] → v = .slice none 0 0) (hx : Arow w (.slice xa s.length xc) s) (hB : B ≤ w.heap.size) (hs : s.length ≤ 1000) (hz : zs.length ≤ 100000)
    (hp : Rep (zs.map Bz.b) p) (hn : 0 < n) (hb : p.length + n ≤ 9223372036854775807) :
    Calls Try.prog 28 #[v, bv n xa s.length xc] w fun e w' => ∃ a c zs', e = .returned (.slice a zs'.length c) ∧ Zown B w' (.slice a zs'.length c) zs' ∧ Rep (zs'.map Bz.b) (p ++ List.replicate n.toNat s) ∧ 0 < zs'.length ∧ zs'.length ≤ zs.length + 1 ∧ Off (fun k => v.ownBlock = some k) w w' ∧ ∀ q, (Value.slice a zs'.length c).ownBlock = some q → v.ownBlock = some q ∨ w.heap.size ≤ q := by
  rcases nil_or_snoc zs with rfl | ⟨l0, y, rfl⟩
  · rw [h0 rfl] at h ⊢
    refine (put_nil B n xa xc s w h hx hB hs).mono fun e w' hh => ?_
    obtain ⟨v', z, rfl, q1, q2, q3, q4⟩ := hh
    obtain ⟨a, c, rfl⟩ := q2.shape
    refine ⟨a, c, _, rfl, q2, ?_, by simp, by simp, q3, q4⟩
    have := hp.next (n := n) (s := s) hn (by simp)
    simpa [q1] using this
  · obtain ⟨a, c, rfl⟩ := h.shape
    obtain ⟨-, g, rfl, -⟩ := h.at (by simp)
    have e1 : (l0 ++ [y]).length = l0.length + 1 := by simp
    rw [e1] at h ⊢
    rw [List.length_append] at hz
    simp only [List.length_cons, List.length_nil] at hz
    rw [List.map_append] at hp
    by_cases hys : y.s = s
    · have hy0 := prp_pos _ hp.prp y.b (by simp)
      have hy1 := hp.mem_le (y := y.b)
      refine (put_same B l0 y g l0.length c n xa xc s w h hx hB hs rfl (by omega) hys (by have : 0 < y.n := hy0; omega) (by have : y.n ≤ p.length := hy1; omega) hn (by omega)).mono fun e w' hh => ?_
      obtain ⟨rfl, q2, q3⟩ := hh
      have e2 : (l0 ++ [(⟨tog y.n n, y.a, y.c, y.s⟩ : Bz)]).length = l0.length + 1 := by simp
      refine ⟨_, c, l0 ++ [⟨tog y.n n, y.a, y.c, y.s⟩], by rw [e2], by rw [e2]; exact q2, ?_, by simp, by simp, q3, fun q hq => .inl hq⟩
      have := hp.same hn
      rw [List.map_append]
      have e3 : tog y.n n = y.n + n := tog_fit (by have : y.n ≤ p.length := hy1; omega)
      have e4 : (List.map Bz.b [(⟨tog y.n n, y.a, y.c, y.s⟩ : Bz)]) = [⟨y.b.n + n, y.b.s⟩] := by rw [e3]; rfl
      rw [e4, ← hys]
      exact this
    · refine (put_other B l0 y g l0.length c n xa xc s w h hx hB hs rfl (by omega) hys).mono fun e w' hh => ?_
      obtain ⟨v', z, rfl, q1, q2, q3, q4⟩ := hh
      obtain ⟨a, c, rfl⟩ := q2.shape
      refine ⟨a, c, _, rfl, q2, ?_, by simp, by simp, q3, q4⟩
      rw [← List.map_append] at hp
      have := hp.next (n := n) (s := s) hn (fun z hz => by rw [bks_last] at hz; cases hz; exact hys)
      simpa [q1] using this

/-! ### what a round leaves -/
/-- The row that a variable points to. -/
def Pt (W : World) (bl k : Nat) : Prop := ∃ v, W.cell? ⟨bl, 0, none⟩ = some v ∧ v.ownBlock = some k
/-- What a round keeps: all that lay below B0; of variables all but one, and the row that it points to. -/
structure KpJ (B0 bl : Nat) (W W' : World) : Prop where
  bel : Below B0 W W'
  size : W.heap.size ≤ W'.heap.size
  keep : ∀ k cs t f, W.heap[k]? = some (.cells cs t f) → k ≠ bl → ¬ Pt W bl k → W'.heap[k]? = some (.cells cs t f)
  pt : ∀ k, k < W.heap.size → Pt W' bl k → Pt W bl k
  lt : (∀ k, Pt W bl k → k < W.heap.size) → ∀ k, Pt W' bl k → k < W'.heap.size
theorem KpJ.refl (B0 bl : Nat) (W : World) : KpJ B0 bl W W := ⟨Below.refl _ _, Nat.le_refl _, fun _ _ _ _ h _ _ => h, fun _ _ h => h, fun h => h⟩
theorem KpJ.trans {B0 bl : Nat} {A B C : World} (h : KpJ B0 bl A B) (k : KpJ B0 bl B C) : KpJ B0 bl A C :=
  ⟨h.bel.trans k.bel, Nat.le_trans h.size k.size, fun i cs t f hi hn hp => k.keep i cs t f (h.keep i cs t f hi hn hp) hn (fun q => hp (h.pt i (lt_of_heap hi) q)),
   fun i hi q => h.pt i hi (k.pt i (Nat.lt_of_lt_of_le hi h.size) q), fun q => k.lt (h.lt q)⟩
theorem pt_same {W W' : World} {bl k : Nat} (h : W'.cell? ⟨bl, 0, none⟩ = W.cell? ⟨bl, 0, none⟩) (hp : Pt W' bl k) : Pt W bl k := by
  obtain ⟨v, h1, h2⟩ := hp
  exact ⟨v, by rw [← h]; exact h1, h2⟩
theorem KpJ.of_below {B0 bl : Nat} {W W' : World} (h : Below W.heap.size W W') (hB : B0 ≤ W.heap.size) (hbl : bl < W.heap.size) : KpJ B0 bl W W' :=
  have hc : W'.cell? ⟨bl, 0, none⟩ = W.cell? ⟨bl, 0, none⟩ := h.cell (p := ⟨bl, 0, none⟩) hbl
  ⟨h.mono hB, h.size, fun k cs t f hk _ _ => (h.block k (lt_of_heap hk)).trans hk, fun k _ q => pt_same hc q, fun q k hk => Nat.lt_of_lt_of_le (q k (pt_same hc hk)) h.size⟩
theorem KpJ.putObj {B0 bl : Nat} {W : World} {k : Nat} {o : Obj} (o' : Obj) (ho : W.heap[k]? = some o) (hc : o.isCells = false) (hk : B0 ≤ k) (hbl : bl ≠ k) : KpJ B0 bl W (W.putObj k o') := by
  have hG := grownBy_putObj' W k o'
  have hlt := lt_of_heap ho
  have hcell : (W.putObj k o').cell? ⟨bl, 0, none⟩ = W.cell? ⟨bl, 0, none⟩ := by
    have hz : (W.putObj k o').heap[bl]? = W.heap[bl]? := by
      simp only [World.putObj]
      rw [Array.getElem?_setIfInBounds, if_neg (fun e => hbl e.symm)]
    exact World.cell?_of_block (w := W) hz
  refine ⟨⟨hG.os, hG.tape, hG.output, hG.size, fun i hi => hG.block i (by omega) (fun e => by injection e; omega)⟩, hG.size, fun i cs t f hi hn hp => ?_, fun i _ q => pt_same hcell q, fun q i hi => Nat.lt_of_lt_of_le (q i (pt_same hcell hi)) hG.size⟩
  refine (hG.block i (lt_of_heap hi) (fun e => ?_)).trans hi
  injection e with e
  subst e
  rw [hi] at ho
  cases ho
  cases hc
/-- A variable turns to a row that may have grown. -/
theorem KpJ.turn {B0 bl n0 : Nat} {W w1 : World} {u v : Value} {t : TypeId} (hbl : Cb bl t #[u] W) (hB : B0 ≤ bl) (hu : ∀ g, u.ownBlock = some g → B0 ≤ g) (hO : Off (fun k => u.ownBlock = some k) W w1) (hblu : u.ownBlock ≠ some bl)
    (hv : ∀ g, v.ownBlock = some g → g < w1.heap.size ∧ (u.ownBlock = some g ∨ W.heap.size ≤ g)) : KpJ B0 bl W (w1.setCell ⟨bl, 0, none⟩ v) := by
  have hG := grown_set (w := w1) (g := bl) (o := 0) v
  have hc1 : Cb bl t #[u] w1 := hbl.off hO (fun h => hblu h)
  have hc2 : (w1.setCell ⟨bl, 0, none⟩ v).cell? ⟨bl, 0, none⟩ = some v := World.cell?_setCell_same _ _ _ (hc1.cell 0)
  have hpt : ∀ k, Pt (w1.setCell ⟨bl, 0, none⟩ v) bl k → v.ownBlock = some k := fun k ⟨x, h1, h2⟩ => by
    rw [hc2] at h1; cases h1; exact h2
  have hltb := hbl.lt
  refine ⟨?_, Nat.le_trans hO.size hG.size, fun k cs t' f hk hn hp => ?_, fun k hk q => ?_, fun _ k q => Nat.lt_of_lt_of_le (hv k (hpt k q)).1 hG.size⟩
  · have b1 : Below B0 W w1 := ⟨hO.os, hO.tape, hO.output, hO.size, fun k hk => hO.block k (by omega) (fun h => by have := hu k h; omega)⟩
    exact b1.trans ⟨hG.os, hG.tape, hG.output, hG.size, fun k hk => hG.block k (by have := hO.size; omega) (fun e => by injection e; omega)⟩
  · rw [hG.block k (Nat.lt_of_lt_of_le (lt_of_heap hk) hO.size) (fun e => hn (by injection e)), hO.block k (lt_of_heap hk) (fun h => hp ⟨u, hbl.cell 0, h⟩)]
    exact hk
  · rcases (hv k (hpt k q)).2 with h | h
    · exact ⟨u, hbl.cell 0, h⟩
    · omega

/-! ### blocks told one by one -/
/-- What is told: where each begins, and it. -/
def Tl (zs : List Bz) : List (Int × Bz) := tel Bz.b 0 zs
structure Ix (T : List (Int × Bz)) where
  t : Int × Bz
  h : t ∈ T
theorem each_any (a : Option Addr) (n c : Nat) (w : World) : Calls Try.prog 25 #[.slice a n c] w fun e w' => ∃ bx, e = .returned (.func (.func 32) #[] #[.pointer (some ⟨bx, 0, none⟩)]) ∧ Cb bx 22 #[.slice a n c] w' ∧ w.heap.size ≤ bx ∧ Below w.heap.size w w' := by
  have H1 := Lib.hid (cb_new w 22 #[.slice a n c])
  have H2 := Lib.hid ((Below.refl w.heap.size w).alloc (Nat.le_refl _) (.cells #[.slice a n c] 22))
  go_enter Try.func25, Try.ntmps25
  go_wp2
  go_ret
  exact ⟨_, rfl, H1.out, Nat.le_refl _, H2.out⟩
theorem tl_step {zs : List Bz} {k : Nat} (h : k < zs.length) : tel Bz.b 0 (zs.take (k + 1)) = if zs[k].n ≤ 0 then tel Bz.b 0 (zs.take k) else tel Bz.b 0 (zs.take k) ++ [(tend Bz.b 0 (zs.take k), zs[k])] := by
  rw [List.take_succ_eq_append_getElem h, tel_snoc]; rfl
theorem te_step {zs : List Bz} {k : Nat} (h : k < zs.length) : tend Bz.b 0 (zs.take (k + 1)) = if zs[k].n ≤ 0 then tend Bz.b 0 (zs.take k) else tog (tend Bz.b 0 (zs.take k)) zs[k].n := by
  rw [List.take_succ_eq_append_getElem h, tend_snoc]; rfl
set_option maxHeartbeats 4000000 in
theorem each1_any {zs : List Bz} {v : Value} {w0 : World} {B0 bx bl : Nat} (n ln : Nat) (hn : 3 ≤ n) (J Jx : List (Ix (Tl zs)) → World → Prop) (hJB : ∀ pre W W', J pre W → Below W.heap.size W W' → J pre W')
    (hY : ∀ (pre : List (Ix (Tl zs))) (x : Ix (Tl zs)) (W1 : World), J pre W1 → pre.length < (Tl zs).length → YieldAt Fence.wide (n - 1) Try.prog ln #[.int .i64 x.t.1, bv x.t.2.n x.t.2.a x.t.2.s.length x.t.2.c] W1 fun e W' =>
      (e = .returned (.bool true) ∧ J (pre ++ [x]) W' ∧ KpJ B0 bl W1 W') ∨ (e = .returned (.bool false) ∧ Jx (pre ++ [x]) W'))
    (W : World) (hbx : Cb bx 22 #[v] W) (hz : Zrow w0 v zs) (hwf : ∀ z ∈ zs, z.n ≤ 9223372036854775807) (hB0 : w0.heap.size = B0) (hbel : Below B0 w0 W) (hbl : bl < W.heap.size) (hB : B0 ≤ bl) (hpt : ∀ k, Pt W bl k → k < W.heap.size) (h0 : J [] W) :
    CallsIn Fence.wide n Try.prog 32 #[.func (.yield ln) #[] #[], .pointer (some ⟨bx, 0, none⟩)] W fun e W' => (∃ v, e = .returned v) ∧ ((∃ ys, ys.map Ix.t = Tl zs ∧ J ys W') ∨ (∃ pre, pre.map Ix.t <+: Tl zs ∧ Jx pre W')) := by
  have hlen : zs.length ≤ 9223372036854775807 := hz.row.len
  obtain ⟨a, c, rfl⟩ := hz.shape
  have HZ := Lib.hid (fun (wr : World) (hk : KpJ B0 bl W wr) => (show Zrow wr (.slice a zs.length c) zs from by subst hB0; exact hz.below (hbel.trans hk.bel)))
  have HY := Lib.hid hY
  have HJB := Lib.hid hJB
  have HP := Lib.hid hpt
  have HW := Lib.hid hwf
  have HB0 := Lib.hid (show B0 ≤ W.heap.size from Nat.le_trans hB (Nat.le_of_lt hbl))
  have hc0 : W.cell? ⟨bx, 0, none⟩ = some (.slice a zs.length c) := hbx.cell 0
  clear hY hJB hbx hz hwf hpt hbel
  refine callsIn_of_wp Try.func32 rfl trivial ?_ rfl
  simp only [Try.ntmps32, List.size_toArray, List.length_cons, List.length_nil, Nat.reduceAdd, Nat.reduceSub, Array.replicate_succ, Array.replicate_zero, List.push_toArray, List.append_toArray, List.nil_append, List.cons_append]
  gi_wp2
  gi_loopw [3, 8] (fun s3 s8 wr => ∃ k : Nat, k ≤ zs.length ∧ s8 = .int .i64 k ∧ s3 = .int .i64 (tend Bz.b 0 (zs.take k)) ∧ KpJ B0 bl W wr ∧ (∃ pre, pre.map Ix.t = tel Bz.b 0 (zs.take k) ∧ J pre wr)) (fun s3 s8 _ => zs.length - (intOf s8).toNat)
  case atStart => exact ⟨0, Nat.zero_le _, rfl, rfl, KpJ.refl _ _ _, [], rfl, h0⟩
  case round =>
    obtain ⟨k, hk, rfl, rfl, hkp, pre, hpre, hJ⟩ := hrel
    rename_i wr
    have hzr := HZ.out wr hkp
    have HK := Lib.hid hkp
    have HJ := Lib.hid hJ
    have HPRE := Lib.hid hpre
    have HT := Lib.hid (tend_pos Bz.b (zs.take k) (b := 0) (by decide) (by decide))
    by_cases hlt : k < zs.length
    · obtain ⟨b, off, rfl, -, -, -, hb, hat⟩ := hzr.opn (by omega)
      obtain ⟨c0, c1, hs⟩ := hat k hlt
      have HTS := Lib.hid (tl_step hlt)
      have HES := Lib.hid (te_step hlt)
      have HTP := Lib.hid (show tel Bz.b 0 (zs.take (k + 1)) <+: Tl zs from by have := tel_pre Bz.b (l := zs) (b := 0) (show k + 1 ≤ zs.length by omega); rwa [List.take_of_length_le (Nat.le_refl _)] at this)
      have HN := Lib.hid (HW.out _ (List.getElem_mem hlt))
      have g1 : decide ((k : Int) < (zs.length : Int)) = true := by rw [decide_eq_true_iff]; omega
      have g2 : decide (k < zs.length) = true := decide_eq_true hlt
      have HBX := Lib.hid (show ZBox wr.heap.size zs[k].n zs[k].a zs[k].s.length zs[k].c (wr.alloc (.cells (bcs zs[k].n zs[k].a zs[k].s.length zs[k].c) 34)) from zbox_new _ _ _ _ _)
      have HCB := Lib.hid (show Cb wr.heap.size 34 (bcs zs[k].n zs[k].a zs[k].s.length zs[k].c) (wr.alloc (.cells (bcs zs[k].n zs[k].a zs[k].s.length zs[k].c) 34)) from cb_new _ _ _)
      have HBB := Lib.hid ((Below.refl wr.heap.size wr).alloc (Nat.le_refl _) (.cells (bcs zs[k].n zs[k].a zs[k].s.length zs[k].c) 34))
      obtain ⟨T, hT⟩ : ∃ T, tend Bz.b 0 (zs.take k) = T := ⟨_, rfl⟩
      rw [hT] at HT HES HTS ⊢
      have HTE := Lib.hid hT
      obtain ⟨z, hzk⟩ : ∃ z, zs[k] = z := ⟨_, rfl⟩
      rw [hzk] at c0 c1 hs HTS HES HN HBX HCB HBB
      have HZK := Lib.hid hzk
      clear hkp hJ hpre hat hzr hT hzk
      by_cases hneg : z.n ≤ 0
      · have g3 : decide (z.n ≤ 0) = true := decide_eq_true hneg
        rw [if_pos hneg] at HTS HES
        have HJ2 := Lib.hid (HJB.out _ _ _ HJ.out HBB.out)
        have HK2 := Lib.hid (HK.out.trans (KpJ.of_below HBB.out (Nat.le_trans HB0.out HK.out.size) (Nat.lt_of_lt_of_le hbl HK.out.size)))
        gi_wp2
        go_roundw
        case rel => exact ⟨k + 1, by omega, by go_num, by rw [HES.out], HK2.out, pre, by rw [HTS.out]; exact HPRE.out, HJ2.out⟩
        case measure => simp [intOf]; omega
      · have g3 : decide (z.n ≤ 0) = false := decide_eq_false hneg
        rw [if_neg hneg] at HTS HES
        have HM := Lib.hid (show (T, z) ∈ Tl zs from HTP.out.subset (by rw [HTS.out]; simp))
        have hpl : pre.length < (Tl zs).length := by
          have h1 := HTP.out.length_le
          rw [HTS.out, List.length_append, ← HPRE.out, List.length_map] at h1
          exact h1
        have HJ2 := Lib.hid (HJB.out _ _ _ HJ.out HBB.out)
        have hblr : bl < wr.heap.size := Nat.lt_of_lt_of_le hbl HK.out.size
        have HNP := Lib.hid (show ¬ Pt (wr.alloc (.cells (bcs z.n z.a z.s.length z.c) 34)) bl wr.heap.size from fun hq => absurd (HK.out.lt HP.out _ (pt_same (HBB.out.cell (p := ⟨bl, 0, none⟩) hblr) hq)) (Nat.lt_irrefl _))
        have HK2 := Lib.hid (HK.out.trans (KpJ.of_below HBB.out (Nat.le_trans HB0.out HK.out.size) hblr))
        obtain ⟨fn, tmps, assign, body, hy, hR⟩ := HY.out pre ⟨(T, z), HM.out⟩ _ HJ2.out hpl
        have HR := Lib.hid hR
        dsimp only at hy
        clear hR hpl HY
        gi_wp2
        refine ⟨fun h => (by cases h), HR.out.mono ?_⟩
        rintro e W' (⟨rfl, hJ', hk'⟩ | ⟨rfl, hJx'⟩)
        · have hx := zbox_of (hk'.keep _ _ _ _ HCB.out (Nat.ne_of_gt hblr) HNP.out)
          obtain ⟨x0, x1⟩ := hx
          have HJ3 := Lib.hid hJ'
          have HK3 := Lib.hid (HK2.out.trans hk')
          have HTG := Lib.hid (together_any T z.n W' HT.out.1 HT.out.2 (by omega) HN.out)
          clear hJ' hk'
          gi_wp2_with (refine ⟨trivial, fun h => (by cases h), ?_⟩; gi_at_call 27; refine (callsIn_wide.2 HTG.out).mono ?_; rintro e w1 ⟨rfl, hw⟩; have hw := hw.symm; subst hw)
          go_roundw
          case rel => exact ⟨k + 1, by omega, by go_num, by rw [HES.out], HK3.out, pre ++ [⟨(T, z), HM.out⟩], by rw [HTS.out, List.map_append, HPRE.out]; rfl, HJ3.out⟩
          case measure => simp [intOf]; omega
        · gi_wp2
          refine bodyPost_ret (results_none rfl _ _ _) rfl ?_
          exact ⟨⟨_, rfl⟩, .inr ⟨_, by rw [List.map_append, HPRE.out]; have := HTP.out; rw [HTS.out] at this; exact this, hJx'⟩⟩
    · obtain rfl : k = zs.length := by omega
      have g1 : decide ((zs.length : Int) < (zs.length : Int)) = false := by rw [decide_eq_false_iff_not]; omega
      have HE := Lib.hid (show pre.map Ix.t = Tl zs from by rw [HPRE.out, List.take_of_length_le (Nat.le_refl _)]; rfl)
      clear hkp hJ hpre hlt hzr
      gi_wp2
      go_end0
      exact ⟨⟨_, rfl⟩, .inl ⟨pre, HE.out, HJ.out⟩⟩
end Go.Proofs.Ytclbjfeneegicaa
