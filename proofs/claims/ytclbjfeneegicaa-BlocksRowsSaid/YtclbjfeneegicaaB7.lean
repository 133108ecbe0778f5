
import Derived.Test.YtclbjfeneegicaaB6
/- B7: Join -/
namespace Go.Proofs.Ytclbjfeneegicaa
open Go.RowKit Go.Shelf
set_option linter.unusedVariables false
set_option maxRecDepth 100000
attribute [local go_sem] Oper.semAt_some

section
variable {w0 W W' w1 : World} {bl n0 m : Nat} {p p' : List (List Att)} {zs zs' : List Bz} {u u' : Value}
theorem Zown.grown {B : Nat} {row : Option Nat} (h : Zown B W u zs) (hg : W.grownBy W' row) (hr : ∀ r, row = some r → ∃ o : Obj, W.heap[r]? = some o ∧ o.isCells = false) : Zown B W' u zs :=
  ⟨own_grown h.row hg hr, fun z hz => own_grown (h.sets z hz) hg hr⟩
/-- What a round that joins keeps: the variable, the blocks that it points to. -/
structure JnK (w0 : World) (bl n0 : Nat) (p : List (List Att)) (m : Nat) (zs : List Bz) (u : Value) (W : World) : Prop where
  rep : Rep (zs.map Bz.b) p
  ln : zs.length ≤ m
  z0 : zs = [] → u = .slice none 0 0
  c : Cb bl 22 #[u] W
  own : Zown n0 W u zs
  bel : Below w0.heap.size w0 W
  hi : n0 ≤ W.heap.size
theorem JnK.grown {row : Option Nat} (h : JnK w0 bl n0 p m zs u W) (hg : W.grownBy W' row) (hr : ∀ r, row = some r → n0 ≤ r ∧ ∃ o : Obj, W.heap[r]? = some o ∧ o.isCells = false) (hB : w0.heap.size ≤ n0) : JnK w0 bl n0 p m zs u W' :=
  ⟨h.rep, h.ln, h.z0, cb_grown h.c hg (fun r e => (hr r e).2), h.own.grown hg (fun r e => (hr r e).2), h.bel.grown hg h.bel.size (fun k e => by have := (hr k e).1; omega), Nat.le_trans h.hi hg.size⟩
theorem JnK.below (h : JnK w0 bl n0 p m zs u W) (hb : Below W.heap.size W W') : JnK w0 bl n0 p m zs u W' :=
  ⟨h.rep, h.ln, h.z0, h.c.below hb, h.own.below hb, below_add h.bel hb h.bel.size, Nat.le_trans h.hi hb.size⟩
theorem own_cells {B : Nat} (h : Zown B W u zs) : ∀ k, u.ownBlock = some k → ∃ cs t f, W.heap[k]? = some (.cells cs t f) := fun k hk => by
  obtain ⟨cur, hc⟩ := own_tag h.row hk
  exact ⟨_, _, _, hc⟩
/-- The end of a round. -/
theorem jnk_next (h : JnK w0 bl n0 p m zs u W) (hbl : w0.heap.size ≤ bl) (hn : bl < n0) (ho : Zown n0 w1 u' zs') (hr : Rep (zs'.map Bz.b) p') (hl : 0 < zs'.length) (hl2 : zs'.length ≤ zs.length + 1) (hO : Off (fun k => u.ownBlock = some k) W w1)
    (hq : ∀ q, u'.ownBlock = some q → u.ownBlock = some q ∨ W.heap.size ≤ q) :
    KeepsFrom n0 W (w1.setCell ⟨bl, 0, none⟩ u') ∧ KpJ w0.heap.size bl W (w1.setCell ⟨bl, 0, none⟩ u') ∧ JnK w0 bl n0 p' (m + 1) zs' u' (w1.setCell ⟨bl, 0, none⟩ u') := by
  have hu : ∀ g, u.ownBlock = some g → n0 ≤ g := fun g hg => own_base h.own.row hg
  have hdum : n0 ≤ W.heap.size := h.hi
  have hbu : u.ownBlock ≠ some bl := fun e => by have := hu _ e; omega
  have hG := grown_set (w := w1) (g := bl) (o := 0) u'
  have hO2 : Off (fun k => k = bl ∨ u.ownBlock = some k) W (w1.setCell ⟨bl, 0, none⟩ u') := (hO.mono (fun k hk => .inr hk)).seq (Off.of_grown hG (fun g hg => by cases hg; exact .inl rfl))
  have kj : KpJ w0.heap.size bl W (w1.setCell ⟨bl, 0, none⟩ u') := KpJ.turn (n0 := n0) h.c hbl (fun g hg => by have := hu g hg; omega) hO hbu (fun g hg => ⟨own_lt7 ho.row hg, hq g hg⟩)
  refine ⟨(keeps_off hO2 (fun k hk _ => ?_)).from _, kj, hr, by have := h.ln; omega, fun e => by subst e; simp at hl, heap_set _ (h.c.off hO (fun hh => hbu hh)), ?_, h.bel.trans kj.bel, Nat.le_trans h.hi hO2.size⟩
  · rcases hk with rfl | hk
    · exact ⟨_, _, _, h.c⟩
    · exact own_cells h.own k hk
  · exact ho.off (Off.of_grown (S := fun k => k = bl) hG (fun g hg => by cases hg; rfl)) (fun k hk _ e => by omega)
end
/-- A told block as a block. -/
def Ix.k {T : List (Int × Bz)} (x : Ix T) : Bk := x.t.2.b
theorem tel_ex : ∀ (zs : List Bz) (b : Int), ex ((tel Bz.b b zs).map fun t => t.2.b) = ex (zs.map Bz.b)
  | [], _ => rfl
  | z :: r, b => by
    rw [tel, List.map_cons, ex_cons]
    split
    · rw [plc_neg (by assumption), List.nil_append, tel_ex r]
    · rw [List.map_cons, ex_cons, tel_ex r]
theorem ix_all {zs : List Bz} {ys : List (Ix (Tl zs))} (h : ys.map Ix.t = Tl zs) : ex (ys.map Ix.k) = ex (zs.map Bz.b) := by
  rw [← tel_ex zs 0]
  have e : ys.map Ix.k = (ys.map Ix.t).map fun t => t.2.b := by rw [List.map_map]; rfl
  rw [e, h]; rfl
theorem ix_len {zs : List Bz} {ys : List (Ix (Tl zs))} (h : ys.map Ix.t = Tl zs) : ys.length ≤ zs.length := by
  have := congrArg List.length h
  rw [List.length_map] at this
  have := tel_len Bz.b zs 0
  unfold Tl at *
  omega
theorem ix_facts {zs : List Bz} (x : Ix (Tl zs)) : 0 ≤ x.t.1 ∧ x.t.1 ≤ 9223372036854775807 ∧ 0 < x.t.2.n ∧ x.t.2 ∈ zs := by
  have := tel_mem Bz.b zs (b := 0) (by decide) (by decide) x.h
  exact this
theorem ix_bound {zs : List Bz} (hn : ∀ z ∈ zs, z.n ≤ 1125899906842624) (pre : List (Ix (Tl zs))) (hl : pre.length ≤ 1000) : (ex (pre.map Ix.k)).length ≤ 1125899906842624000 := by
  have := lenB_le (l := pre.map Ix.k) (m := 1000) (N := 1125899906842624) (fun b hb => by
    obtain ⟨x, -, rfl⟩ := List.mem_map.1 hb
    exact hn _ (ix_facts x).2.2.2) (by decide) (by simpa using hl)
  unfold lenB at this
  omega
theorem ex_snoc (l : List Bk) (b : Bk) : ex (l ++ [b]) = ex l ++ List.replicate b.n.toNat b.s := by rw [ex_app, ex_one]; rfl
theorem tl_len (zs : List Bz) : (Tl zs).length ≤ zs.length := tel_len Bz.b zs 0
theorem pt_nil {W : World} {bl k : Nat} {t : TypeId} (h : Cb bl t #[.slice none 0 0] W) : ¬ Pt W bl k := fun ⟨v, h1, h2⟩ => by
  rw [h.cell 0] at h1
  injection h1 with h1
  subst h1
  simp [Value.ownBlock] at h2

set_option maxHeartbeats 4000000 in
theorem join_any (v : Value) (zs : List Bz) (w : World) (hv : Zrow w v zs) (hl : zs.length ≤ 1000) (hn : ∀ z ∈ zs, z.n ≤ 1125899906842624) (hs : ∀ z ∈ zs, z.s.length ≤ 1000) :
    Calls Try.prog 14 #[v] w fun e w' => ∃ a c zs', e = .returned (.slice a zs'.length c) ∧ Zown w.heap.size w' (.slice a zs'.length c) zs' ∧ Rep (zs'.map Bz.b) (ex (zs.map Bz.b)) ∧ zs'.length ≤ zs.length ∧ Below w.heap.size w w' := by
  obtain ⟨va, vc, rfl⟩ := hv.shape
  have HV := Lib.hid hv
  have HL := Lib.hid hl
  have HN := Lib.hid hn
  have HS := Lib.hid hs
  have C1 := Lib.hid (cb_new w 22 #[.slice none 0 0])
  have B1 := Lib.hid ((Below.refl w.heap.size w).alloc (Nat.le_refl _) (.cells #[.slice none 0 0] 22))
  clear hv hl hn hs
  refine (callsIn_wide (n := 9)).1 ?_
  refine callsIn_of_wp_marks Try.func14 rfl trivial ?_ rfl
  simp only [Try.ntmps14, List.size_toArray, List.length_cons, List.length_nil, Nat.reduceAdd, Nat.reduceSub, Array.replicate_succ, Array.replicate_zero, List.push_toArray, List.append_toArray, List.nil_append, List.cons_append]
  refine wpIn_wide.2 ?_
  go_wp2_with (go_at_call 25; refine (each_any _ _ _ _).mono ?_; rintro e w2 ⟨bx, rfl, hc, hge, bb⟩; have CX := Lib.hid hc; have GE := Lib.hid hge; have B2 := Lib.hid bb; clear hc hge bb)
  have HB0 := Lib.hid (show Below w.heap.size w w2 from below_add B1.out B2.out B1.out.size)
  have CL := Lib.hid (C1.out.below B2.out)
  have HNP := Lib.hid (fun k (hk : Pt w2 w.heap.size k) => (pt_nil CL.out hk : False))
  have HI0 := Lib.hid (show JnK w w.heap.size w2.heap.size (ex (([] : List (Ix (Tl zs))).map Ix.k)) 0 [] (.slice none 0 0) w2 from ⟨Rep.nil, Nat.le_refl _, fun _ => rfl, CL.out, Zown.nil _ _, HB0.out, Nat.le_refl _⟩)
  have HLT := Lib.hid (show w.heap.size < w2.heap.size from CL.out.lt)
  clear C1 B1 B2 GE
  refine (wpIn_wide (n := 9)).1 ?_
  refine act_gen fun T hT => ?_
  refine wpIn_rangeFunc_ownH (α := Ix (Tl zs)) (encs := fun x => #[.int .i64 x.t.1, bv x.t.2.n x.t.2.a x.t.2.s.length x.t.2.c]) (Kp := KpJ w.heap.size w.heap.size) (S := fun ys => ys.map Ix.t = Tl zs) (Sp := fun pre => pre.map Ix.t <+: Tl zs) (N := (Tl zs).length) (w0 := w2) rfl (by decide)
    (gf := 32) (lb := #[.pointer (some ⟨bx, 0, none⟩)]) (by rw [← hT]; rfl) trivial (enters_of Try.func32 (by kernel_rfl) rfl) ?seq (fun h k => h.trans k) ?kb (Below.refl _ _) (fun _ => rfl)
    (fun pre W => ∃ zs' u, JnK w w.heap.size w2.heap.size (ex (pre.map Ix.k)) pre.length zs' u W)
    (fun c _ W => False)
    (fun pre A B' row ⟨zs', u, h⟩ hg hr => ⟨zs', u, h.grown hg hr (Nat.le_of_lt HLT.out)⟩)
    (fun c pre A B' row h hg hr => h.elim)
    ⟨_, _, HI0.out⟩
    (fun x a' W => ∃ Bx, w2.heap.size ≤ Bx ∧ Cb Bx 34 (bcs x.t.2.n x.t.2.a x.t.2.s.length x.t.2.c) W ∧ a' = { tmps := ((T.tmps.setIfInBounds 8 (.int .i64 x.t.1)).setIfInBounds 9 (bv x.t.2.n x.t.2.a x.t.2.s.length x.t.2.c)).setIfInBounds 5 (.pointer (some ⟨Bx, 0, none⟩)), defers := [] })
    (fun x a' _ X Y row hs hg hr => by obtain ⟨Bx, h1, h2, h3⟩ := hs; exact ⟨Bx, h1, cb_grown h2 hg (fun r e => (hr r e).2), h3⟩)
    ?assign ?body ?done ?stop
  case seq =>
    intro ln J Jx W hW hJ hJx hY h0
    exact each1_any (w0 := w) (B0 := w.heap.size) (bx := bx) (bl := w.heap.size) 8 ln (by decide) J Jx (fun pre A A' hA hb => hJ pre A A' none hA ⟨hb.os, hb.tape, hb.output, hb.size, fun k hk _ => hb.block k hk⟩ (fun r e => by cases e)) hY W (CX.out.below hW) HV.out (fun z hz => Int.le_trans (HN.out z hz) (by decide)) rfl (HB0.out.trans (hW.mono HB0.out.size)) (Nat.lt_of_lt_of_le HLT.out hW.size) (Nat.le_refl _)
      (fun k hk => (HNP.out k (pt_same (hW.cell (p := ⟨w.heap.size, 0, none⟩) HLT.out) hk)).elim) h0
  case kb =>
    intro W k o1 o2 hk ho h1 h2
    have := HLT.out
    exact KpJ.putObj o2 ho h1 (by omega) (by omega)
  case assign =>
    rintro ln pre x W K ⟨zs', u, hI⟩ hK
    subst hT
    have V4 := Lib.hid (cb_new W 34 (bcs x.t.2.n x.t.2.a x.t.2.s.length x.t.2.c))
    have hb : Below W.heap.size W (W.alloc (.cells (bcs x.t.2.n x.t.2.a x.t.2.s.length x.t.2.c) 34)) := (Below.refl _ W).alloc (Nat.le_refl _) _
    refine regionIn_of_plain (fun _ _ h => h) rfl ?_
    go_wp2
    exact hK _ _ ((keeps_off (S := fun _ => False) (Off.of_below hb) (fun k h => h.elim)).from _) (KpJ.of_below hb (Nat.le_of_lt (Nat.lt_of_lt_of_le HLT.out hI.hi)) (Nat.lt_of_lt_of_le HLT.out hI.hi)) ⟨zs', u, hI.below hb⟩ ⟨W.heap.size, hI.hi, V4.out, rfl⟩
  case body =>
    rintro ln pre x a' W hln ⟨r, hr⟩ ⟨zs', u, hI⟩ ⟨Bx, hBx, hcx, rfl⟩ hlt
    subst hT
    have hf := ix_facts x
    have hpl : pre.length ≤ 1000 := by have := tl_len zs; have := HL.out; omega
    have hbd := ix_bound HN.out pre hpl
    have hxn := HN.out _ hf.2.2.2
    obtain ⟨x0, x1⟩ := zbox_of hcx
    have hup := own_base (k := w.heap.size) hI.own.row
    have HP := Lib.hid (put_any w2.heap.size zs' u x.t.2.n x.t.2.a x.t.2.c x.t.2.s W hI.own hI.z0 ((HV.out.sets _ hf.2.2.2).below hI.bel (Nat.le_refl _)) hI.hi (HS.out _ hf.2.2.2) (by have := hI.ln; omega) hI.rep hf.2.2.1 (by omega))
    have HNX := Lib.hid (fun zs2 u2 (w1 : World) ho hr hl hl2 hO hq => jnk_next (w1 := w1) (zs' := zs2) (u' := u2) (p' := ex (pre.map Ix.k) ++ List.replicate x.t.2.n.toNat x.t.2.s) hI (Nat.le_refl _) HLT.out ho hr hl hl2 hO hq)
    have HC := Lib.hid hI.c
    have HEX := Lib.hid (show ex ((pre ++ [x]).map Ix.k) = ex (pre.map Ix.k) ++ List.replicate x.t.2.n.toNat x.t.2.s by rw [List.map_append]; exact ex_snoc _ _)
    have HPL := Lib.hid (show (pre ++ [x]).length = pre.length + 1 by simp)
    have HUP := Lib.hid (show ∀ k, u.ownBlock = some k → ¬ k = w.heap.size from fun k hk e => by subst e; have := hup hk; have := HLT.out; omega)
    obtain ⟨ua, uc, rfl⟩ := hI.own.shape
    have c0 : W.cell? ⟨w.heap.size, 0, none⟩ = some (.slice ua zs'.length uc) := hI.c.cell 0
    clear hI hcx hf hbd hxn hup
    refine wpIn_block ?_
    refine regionIn_of_plain (fun _ _ h => h) rfl ?_
    go_wp2_with (go_at_call 28; refine HP.out.mono ?_; rintro e w1 ⟨ra, rc, zs2, rfl, q1, q2, q3, q4, q5, q6⟩; have HQ := Lib.hid (HNX.out zs2 (.slice ra zs2.length rc) w1 q1 q2 q3 q4 q5 q6); have C5 := HC.out.off q5 (fun hh => HUP.out _ hh rfl); have c5 : w1.cell? ⟨w.heap.size, 0, none⟩ = some (.slice ua zs'.length uc) := C5.cell 0; have f5 := C5.frozen 0; clear q1 q2 q3 q4 q5 q6 C5)
    refine ⟨HQ.out.1, HQ.out.2.1, zs2, .slice ra zs2.length rc, ?_⟩
    rw [HEX.out, HPL.out]
    exact HQ.out.2.2
  case stop =>
    rintro D c pre W hD _ h hDW
    exact h.elim
  case done =>
    rintro D ys W hD hS ⟨zs', u, hI⟩ hDW
    subst hT
    have c0 := hI.c.cell 0
    obtain ⟨ua, uc, rfl⟩ := hI.own.shape
    have HE := Lib.hid (show Zown w.heap.size W (.slice ua zs'.length uc) zs' ∧ Rep (zs'.map Bz.b) (ex (zs.map Bz.b)) ∧ zs'.length ≤ zs.length ∧ Below w.heap.size w W from ⟨hI.own.mono (Nat.le_of_lt HLT.out), by rw [← ix_all hS]; exact hI.rep, Nat.le_trans hI.ln (ix_len hS), hI.bel⟩)
    have HDW := Lib.hid hDW
    have HD := Lib.hid (show w.heap.size ≤ D by have := HLT.out; omega)
    clear hI hDW hD hS
    gi_wp2
    go_wp2
    have hG := grownBy_putObj' W D (.deferred none)
    have h1 := HE.out.1.grown hG (fun r e => by cases e; exact ⟨_, HDW.out, rfl⟩)
    have h2 := HE.out.2.2.2.trans (⟨hG.os, hG.tape, hG.output, hG.size, fun k hk => hG.block k (by have := HE.out.2.2.2.size; omega) (fun e => by injection e with e; have := HD.out; omega)⟩ : Below w.heap.size W (W.putObj D (.deferred none)))
    refine ⟨by simp, .inl ⟨_, _, rfl, run_takeDeferred HDW.out, ?_⟩⟩
    refine ⟨.slice ua zs'.length uc, ?_, ua, uc, zs', rfl, h1, HE.out.2.1, HE.out.2.2.1, h2⟩
    simp [results, Try.f14, go_sem]
end Go.Proofs.Ytclbjfeneegicaa
