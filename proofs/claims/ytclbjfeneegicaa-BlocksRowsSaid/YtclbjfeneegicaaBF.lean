
import Derived.Test.YtclbjfeneegicaaBE
/- BF: the reference's Copy; tame -/
namespace Go.Proofs.Ytclbjfeneegicaa
open Go.RowKit
set_option linter.unusedVariables false
set_option maxRecDepth 100000

/-- append(out, src...) as one operation: out the call's own, src whatever slice, nil too. -/
theorem wp_append_rowC {α : Type} {C : Cel α} {P : Program} {w : World} {o : Oper} {a : Act} {K : Act → World → Prop} {Q : Exit → Act → World → Prop} (s x : Operand) (t : TypeId)
    (ho : o.op = .call { callee := .builtin .append, args := #[s, x], argTypes := #[t, t] })
    (base : Nat) (e : TypeId) (i : TypeInfo) (z : Value) (bytes : Nat) (ht : P.underlying t = some (.slice e)) (hi : P.info? e = some i) (hz : i.zero = some z)
    (hsize : i.size = C.m) (hby : i.bytes = bytes) (hzs : z.cells.size = C.m)
    (v : Value) (n : Nat) (cs : List Value) (hs : a.eval s = v) (hown : w.ownsRow base e C.m v n cs)
    (u : Value) (ys : List α) (hx : a.eval x = u) (hu : Row C w u ys)
    (h63 : n + ys.length ≤ maxLen) (hbytes : (n + ys.length) * bytes ≤ 140737488355328) (hbase : base ≤ w.heap.size)
    (h : ∀ v' w', w'.ownsRow base e C.m v' (n + ys.length) (cs ++ fl C ys) → w.grownBy w' v.ownBlock → K (a.put o.dst v') w') : o.wp P a w K Q := by
  rcases hu with ⟨ad, cap, rfl, rfl, hm, hc0⟩ | ⟨b, off, cap, rfl, h0, h1, hm, hc⟩
  · cases ad with
    | none =>
      obtain rfl := hc0 rfl
      have hrun := run_append_owned_none (P := P) (w := w) base t o.type e i C.m ht hi v n cs hown
      unfold Oper.wp
      simp [execOp, ho, resolve, invoke, builtin, hs, hx, hrun, Result.andThen]
      exact h v w (by simpa [fl_nil] using hown) (grown_refl _ _)
    | some ad =>
      exact wp_append_own w s x t ho base e i z C.m bytes ht hi hz hsize hby hzs C.pos v n cs hs hown ad 0 cap [] hx (by simp) (by intro j u hj; simp at hj) (by intro u hu; cases hu) h63 hbytes hbase (fun v' w' q1 q2 _ => h v' w' (by simpa [fl_nil] using q1) q2)
  · refine wp_append_own w s x t ho base e i z C.m bytes ht hi hz hsize hby hzs C.pos v n cs hs hown ⟨b, off, none⟩ ys.length cap (fl C ys) hx (fl_len C ys) ?_ (fl_ones C ys) h63 hbytes hbase (fun v' w' q1 q2 _ => h v' w' q1 q2)
    intro j u hj
    rw [Go.WideShapes.add_plain]
    exact hc j u hj
/-- append(E{}, src...) as a step of a region that draws its order. -/
theorem step_copy_new {α : Type} {C : Cel α} {P : Program} {w0 : World} {ops : Array Oper} {o : Oper} {a : Act} {K : Act → World → Prop} {Q : Exit → Act → World → Prop} {E : Prop} (hgd : o.guard = none) (s x : Operand) (t : TypeId)
    (ho : o.op = .call { callee := .builtin .append, args := #[s, x], argTypes := #[t, t] })
    (e : TypeId) (i : TypeInfo) (z : Value) (bytes : Nat) (ht : P.underlying t = some (.slice e)) (hi : P.info? e = some i) (hz : i.zero = some z)
    (hsize : i.size = C.m) (hby : i.bytes = bytes) (hzs : z.cells.size = C.m)
    (hs : a.eval s = .slice (some ⟨w0.heap.size, 0, none⟩) 0 0) (u : Value) (ys : List α) (hx : a.eval x = u) (hu : Row C (w0.alloc (.cells #[] e)) u ys)
    (h63 : ys.length ≤ maxLen) (hbytes : ys.length * bytes ≤ 140737488355328)
    (h : ∀ b c w', w'.ownsRow w0.heap.size e C.m (.slice b ys.length c) ys.length (fl C ys) → Below w0.heap.size w0 w' → K (a.put o.dst (.slice b ys.length c)) w') :
    if Region.wanted o (yielded ops a.tmps) = true then Oper.wp P o a (w0.alloc (.cells #[] e)) K Q else E := by
  have hw : Region.wanted o (yielded ops a.tmps) = true := by simp [Region.wanted, hgd]
  rw [if_pos hw]
  refine wp_append_rowC (C := C) s x t ho w0.heap.size e i z bytes ht hi hz hsize hby hzs _ 0 [] hs (owns_none w0 e C.m) u ys hx hu (by rw [Nat.zero_add]; exact h63) (by rw [Nat.zero_add]; exact hbytes) (by simp) fun v' w' q1 q2 => ?_
  rw [Nat.zero_add, List.nil_append] at q1
  obtain ⟨b, c, rfl, -, -⟩ := own_shape q1
  have hB := (Below.refl w0.heap.size w0).alloc (Nat.le_refl _) (.cells #[] e)
  exact h b c w' q1 (hB.grown q2 (by simp) (fun j hj => own_base (owns_none w0 e C.m) hj))
/-- What a copy is: the same, in memory of its own. -/
structure CpK (w0 : World) (l : List Bk) (u : Value) (zs : List Bz) (W : World) : Prop where
  eq : zs.map Bz.b = l
  own : Zown w0.heap.size W u zs
  bel : Below w0.heap.size w0 W
theorem CpK.below {w0 W W' : World} {l : List Bk} {u : Value} {zs : List Bz} (h : CpK w0 l u zs W) (hb : Below W.heap.size W W') : CpK w0 l u zs W' :=
  ⟨h.eq, h.own.below hb, below_add h.bel hb h.bel.size⟩
set_option maxHeartbeats 4000000 in
theorem rcopy_any (v : Value) (zs : List Bz) (w : World) (hv : Zrow w v zs) (hl : zs.length ≤ 1000) (hs : ∀ z ∈ zs, z.s.length ≤ 1000) :
    Calls Try.prog 13 #[v] w fun e w' => ∃ a c zs', e = .returned (.slice a zs'.length c) ∧ CpK w (zs.map Bz.b) (.slice a zs'.length c) zs' w' := by
  obtain ⟨va, vc, rfl⟩ := hv.shape
  obtain ⟨i0, hi, hz0', hz1, hz2⟩ := info_bk
  obtain ⟨i5, hi5, hz50, hz51, hz52⟩ := info_att5
  have HV := Lib.hid hv
  have HS := Lib.hid hs
  clear hv hs
  go_enter Try.func13, Try.ntmps13
  go_wp2
  go_loopw [3, 4] (fun s3 s4 wr => ∃ (k : Nat) (a : Option Addr) (c : Nat) (zs' : List Bz), k ≤ zs.length ∧ s4 = .int .i64 k ∧ s3 = .slice a zs'.length c ∧ Hid (CpK w ((zs.take k).map Bz.b) (.slice a zs'.length c) zs' wr)) (fun s3 s4 _ => zs.length - (intOf s4).toNat)
  case atStart => exact ⟨0, none, 0, [], Nat.zero_le _, rfl, rfl, Lib.hid ⟨rfl, Zown.nil _ _, Below.refl _ _⟩⟩
  case round =>
    obtain ⟨k, ua, uc, zs', hk, rfl, rfl, HK⟩ := hrel
    rename_i wr
    by_cases hlt : k < zs.length
    · obtain ⟨b, off, rfl, -, -, -, hbl, hat⟩ := HV.out.opn (by omega)
      obtain ⟨c0, c1, hs⟩ := hat k hlt
      have HBL := Lib.hid hbl
      have hdw : Below wr.heap.size wr wr.drew := (Below.refl _ _).drew
      have HZ := Lib.hid (show Z2 b (off + k * 2) zs[k].n zs[k].a zs[k].s.length zs[k].c wr.drew from ⟨cell_below (HK.out.bel.trans (hdw.mono HK.out.bel.size)) c0, cell_below (HK.out.bel.trans (hdw.mono HK.out.bel.size)) c1⟩)
      have HR := Lib.hid (show Arow wr.drew (.slice zs[k].a zs[k].s.length zs[k].c) zs[k].s from hs.below (HK.out.bel.trans (hdw.mono HK.out.bel.size)) (Nat.le_refl _))
      have HK1 := Lib.hid (HK.out.below hdw)
      have HT := Lib.hid (bk_take hlt)
      have HSL := Lib.hid (HS.out _ (List.getElem_mem hlt))
      have HLN := Lib.hid (show zs'.length = k from by have := congrArg List.length HK.out.eq; rw [List.length_map, List.length_map, List.length_take] at this; omega)
      obtain ⟨z, hz⟩ : ∃ z, zs[k] = z := ⟨_, rfl⟩
      rw [hz] at c0 c1 hs HZ HR HT HSL
      clear hat hz hs c0 c1 hdw
      have HU := Lib.hid (show ∀ q, (Value.slice ua zs'.length uc).ownBlock = some q → w.heap.size ≤ q from fun q hq => own_base HK1.out.own.row hq)
      go_wp2_with fail
      have hz0 := HZ.out
      have HOW := Lib.hid (fun w6 (hb : Below wr.drew.heap.size wr.drew w6) => HK1.out.below hb)
      go_region_held3 (fun w' => Z2 b (off + k * 2) z.n z.a z.s.length z.c w') (first | assumption | trivial | exact hz0.below ((Below.refl _ _).alloc (Nat.le_refl _) _) | exact hS3.below ((Below.refl _ _).alloc (Nat.le_refl _) _))
        (first
          | (refine step_copy_new (C := attC) (w0 := wr.drew) (by rfl) (.tmp 17) (.tmp 22) 24 (by rfl) 39 i5 (av noAtt) 48 Try.underlying24 hi5 hz50 hz51 hz52 (by rfl) (by rfl) _ z.s (by rfl) (HR.out.below ((Below.refl _ _).alloc (Nat.le_refl _) _) (Nat.le_refl _)) (by have := HSL.out; unfold maxLen; omega) (by have := HSL.out; omega) ?_; intro ca cc w3 hown3 hb3; have hS3 := hz0.below hb3; have OW4 := HOW.out _ (hb3.alloc hb3.size (.cells (bcs z.n ca z.s.length cc) 34)))
          | (refine step_append_lies _ (by rfl) (.tmp 11) (.tmp 25) 22 (by rfl) w.heap.size 34 i0 (bv 0 none 0 0) 2 32 Try.underlying22 hi hz0' hz1 hz2 (by rfl) (by decide) (.slice ua zs'.length uc) zs'.length (fl bzC zs') (by rfl) OW4.own.row ⟨w3.heap.size, 0, none⟩ 1 1 [.int .i64 z.n, .slice ca z.s.length cc] (by rfl) (by rfl) (World.news_of_block (heap_alloc_new _ _)) (bk_ones _ _ _ _) (by decide) (by have := HLN.out; unfold maxLen; omega) (by have := HLN.out; omega) OW4.bel.size _ rfl ?_; intro g cap w7 hown7 hgrow7 hat7 hlt7; have hS7 := (hS3.below ((Below.refl _ _).alloc (Nat.le_refl _) (.cells (bcs z.n ca z.s.length cc) 34))).off (Off.of_grown hgrow7 (fun g hg => hg)) (fun hh => absurd (HU.out _ hh) (Nat.not_le.2 HBL.out))))
      go_wp2_with fail
      have hzz := Zown.more OW4.own hgrow7 ⟨z.n, ca, cc, z.s⟩ (owns_mono (owns_below hown3 ((Below.refl _ _).alloc (Nat.le_refl _) _)) HK1.out.bel.size) hown7
      have HQ := Lib.hid (show CpK w ((zs.take (k + 1)).map Bz.b) (.slice (some ⟨g, 0, none⟩) (zs'.length + 1) cap) (zs' ++ [⟨z.n, ca, cc, z.s⟩]) w7 from ⟨by rw [List.map_append, OW4.eq, HT.out]; rfl, hzz, OW4.bel.trans ((Off.of_grown hgrow7 (fun g hg => hg)).below (fun q hq => HU.out q hq) OW4.bel.size)⟩)
      have HL1 := Lib.hid (show (zs' ++ [(⟨z.n, ca, cc, z.s⟩ : Bz)]).length = zs'.length + 1 by simp)
      clear hown7 hgrow7 hat7 hlt7 hS7 OW4 hown3 hb3 hS3 hzz
      go_roundw
      case rel => exact ⟨k + 1, some ⟨g, 0, none⟩, cap, zs' ++ [⟨z.n, ca, cc, z.s⟩], by omega, by go_num, by rw [HL1.out], Lib.hid (by rw [HL1.out]; exact HQ.out)⟩
      case measure => simp [intOf]; omega
    · obtain rfl : k = zs.length := by omega
      have HE := Lib.hid (show CpK w (zs.map Bz.b) (.slice ua zs'.length uc) zs' wr from by have := HK.out; rwa [List.take_of_length_le (Nat.le_refl _)] at this)
      clear HK
      go_wp2
      go_ret
      exact ⟨ua, uc, zs', rfl, HE.out⟩
end Go.Proofs.Ytclbjfeneegicaa
