
import Derived.Test.YtclbjfeneegicaaB7
/- B8: Len, At -/
namespace Go.Proofs.Ytclbjfeneegicaa
open Go.RowKit Go.Shelf
set_option linter.unusedVariables false
set_option maxRecDepth 100000
attribute [local go_sem] Oper.semAt_some

/-- What Len's variable holds. -/
def LnV {T : List (Int × Bz)} (pre : List (Ix T)) : Int := match pre.getLast? with
  | none => 0
  | some x => tog x.t.1 x.t.2.n
theorem lnv_snoc {T : List (Int × Bz)} (pre : List (Ix T)) (x : Ix T) : LnV (pre ++ [x]) = tog x.t.1 x.t.2.n := by simp [LnV]
theorem lnv_all {zs : List Bz} {ys : List (Ix (Tl zs))} (h : ys.map Ix.t = Tl zs) : LnV ys = tend Bz.b 0 zs := by
  have e : (tel Bz.b 0 zs).getLast? = (ys.map Ix.t).getLast? := congrArg List.getLast? h.symm
  rw [tel_last Bz.b zs 0, e, List.getLast?_map]
  unfold LnV
  cases ys.getLast? <;> rfl
theorem pt_int {W : World} {bl k : Nat} {t : TypeId} {x : Int} (h : Cb bl t #[.int .i64 x] W) : ¬ Pt W bl k := fun ⟨v, h1, h2⟩ => by
  rw [h.cell 0] at h1
  injection h1 with h1
  subst h1
  simp [Value.ownBlock] at h2
theorem kpj_int {B0 bl : Nat} {W : World} {x y : Int} {t : TypeId} (h : Cb bl t #[.int .i64 x] W) (hB : B0 ≤ bl) : KpJ B0 bl W (W.setCell ⟨bl, 0, none⟩ (.int .i64 y)) :=
  KpJ.turn (n0 := 0) h hB (fun g hg => by simp [Value.ownBlock] at hg) (Off.refl _ _) (by simp [Value.ownBlock]) (fun g hg => by simp [Value.ownBlock] at hg)
theorem off_set1 {w : World} {g o : Nat} (v : Value) : Off (fun k => k = g) w (w.setCell ⟨g, o, none⟩ v) := Off.of_grown (grown_set (w := w) (g := g) (o := o) v) (fun k hk => by cases hk; rfl)
set_option maxHeartbeats 4000000 in
theorem len_any (v : Value) (zs : List Bz) (w : World) (hv : Zrow w v zs) (hwf : ∀ z ∈ zs, z.n ≤ 9223372036854775807) :
    Calls Try.prog 11 #[v] w fun e w' => e = .returned (.int .i64 (tend Bz.b 0 zs)) ∧ Below w.heap.size w w' := by
  obtain ⟨va, vc, rfl⟩ := hv.shape
  have HV := Lib.hid hv
  have HWF := Lib.hid hwf
  have C1 := Lib.hid (cb_new w 3 #[.int .i64 0])
  have B1 := Lib.hid ((Below.refl w.heap.size w).alloc (Nat.le_refl _) (.cells #[.int .i64 0] 3))
  clear hv hwf
  refine (callsIn_wide (n := 9)).1 ?_
  refine callsIn_of_wp_marks Try.func11 rfl trivial ?_ rfl
  simp only [Try.ntmps11, List.size_toArray, List.length_cons, List.length_nil, Nat.reduceAdd, Nat.reduceSub, Array.replicate_succ, Array.replicate_zero, List.push_toArray, List.append_toArray, List.nil_append, List.cons_append]
  refine wpIn_wide.2 ?_
  go_wp2_with (go_at_call 25; refine (each_any _ _ _ _).mono ?_; rintro e w2 ⟨bx, rfl, hc, hge, bb⟩; have CX := Lib.hid hc; have GE := Lib.hid hge; have B2 := Lib.hid bb; clear hc hge bb)
  have HB0 := Lib.hid (show Below w.heap.size w w2 from below_add B1.out B2.out B1.out.size)
  have CL := Lib.hid (C1.out.below B2.out)
  have HNP := Lib.hid (fun k (hk : Pt w2 w.heap.size k) => (pt_int CL.out hk : False))
  have HLT := Lib.hid (show w.heap.size < w2.heap.size from CL.out.lt)
  clear C1 B1 B2 GE
  refine (wpIn_wide (n := 9)).1 ?_
  refine act_gen fun T hT => ?_
  refine wpIn_rangeFunc_ownH (α := Ix (Tl zs)) (encs := fun x => #[.int .i64 x.t.1, bv x.t.2.n x.t.2.a x.t.2.s.length x.t.2.c]) (Kp := KpJ w.heap.size w.heap.size) (S := fun ys => ys.map Ix.t = Tl zs) (Sp := fun pre => pre.map Ix.t <+: Tl zs) (N := (Tl zs).length) (w0 := w2) rfl (by decide)
    (gf := 32) (lb := #[.pointer (some ⟨bx, 0, none⟩)]) (by rw [← hT]; rfl) trivial (enters_of Try.func32 (by kernel_rfl) rfl) ?seq (fun h k => h.trans k) ?kb (Below.refl _ _) (fun _ => rfl)
    (fun pre W => Cb w.heap.size 3 #[.int .i64 (LnV pre)] W ∧ Below w.heap.size w W ∧ w2.heap.size ≤ W.heap.size)
    (fun c pre W => False)
    (fun pre A B' row h hg hr => ⟨cb_grown h.1 hg (fun r e => (hr r e).2), h.2.1.grown hg h.2.1.size (fun k e => by have := (hr k e).1; have := HLT.out; omega), Nat.le_trans h.2.2 hg.size⟩)
    (fun c pre A B' row h hg hr => h.elim)
    ⟨CL.out, HB0.out, Nat.le_refl _⟩
    (fun x a' W => ∃ Bx, w2.heap.size ≤ Bx ∧ Cb Bx 34 (bcs x.t.2.n x.t.2.a x.t.2.s.length x.t.2.c) W ∧ a' = { tmps := ((((T.tmps.setIfInBounds 8 (.int .i64 x.t.1)).setIfInBounds 9 (bv x.t.2.n x.t.2.a x.t.2.s.length x.t.2.c)).setIfInBounds 4 (.int .i64 x.t.1)).setIfInBounds 5 (.pointer (some ⟨Bx, 0, none⟩))), defers := [] })
    (fun x a' _ X Y row hs hg hr => by obtain ⟨Bx, h1, h2, h3⟩ := hs; exact ⟨Bx, h1, cb_grown h2 hg (fun r e => (hr r e).2), h3⟩)
    ?assign ?body ?done ?stop
  case seq =>
    intro ln J Jx W hW hJ hJx hY h0
    exact each1_any (w0 := w) (B0 := w.heap.size) (bx := bx) (bl := w.heap.size) 8 ln (by decide) J Jx (fun pre A A' hA hb => hJ pre A A' none hA ⟨hb.os, hb.tape, hb.output, hb.size, fun k hk _ => hb.block k hk⟩ (fun r e => by cases e)) hY W (CX.out.below hW) HV.out HWF.out rfl (HB0.out.trans (hW.mono HB0.out.size)) (Nat.lt_of_lt_of_le HLT.out hW.size) (by omega)
      (fun k hk => (HNP.out k (pt_same (hW.cell (p := ⟨w.heap.size, 0, none⟩) HLT.out) hk)).elim) h0
  case kb =>
    intro W k o1 o2 hk ho h1 h2
    have := HLT.out
    exact KpJ.putObj o2 ho h1 (by omega) (by omega)
  case assign =>
    rintro ln pre x W K hI hK
    subst hT
    have V4 := Lib.hid (cb_new W 34 (bcs x.t.2.n x.t.2.a x.t.2.s.length x.t.2.c))
    have hb : Below W.heap.size W (W.alloc (.cells (bcs x.t.2.n x.t.2.a x.t.2.s.length x.t.2.c) 34)) := (Below.refl _ W).alloc (Nat.le_refl _) _
    gi_wp2
    exact hK _ _ ((keeps_off (S := fun _ => False) (Off.of_below hb) (fun k h => h.elim)).from _) (KpJ.of_below hb (Nat.le_of_lt (Nat.lt_of_lt_of_le HLT.out hI.2.2)) (Nat.lt_of_lt_of_le HLT.out hI.2.2)) ⟨hI.1.below hb, below_add hI.2.1 hb hI.2.1.size, Nat.le_trans hI.2.2 hb.size⟩ ⟨W.heap.size, hI.2.2, V4.out, rfl⟩
  case body =>
    rintro ln pre x a' W hln ⟨r, hr⟩ hI ⟨Bx, hBx, hcx, rfl⟩ hlt
    subst hT
    have hf := ix_facts x
    have HI := Lib.hid hI
    obtain ⟨x0, x1⟩ := zbox_of hcx
    have HTG := Lib.hid (together_any x.t.1 x.t.2.n W hf.1 hf.2.1 (by omega) (HWF.out _ hf.2.2.2))
    have c0 := hI.1.cell 0
    have f0 := hI.1.frozen 0
    clear hI hcx hf
    refine wpIn_block ?_
    refine regionIn_of_plain (fun _ _ h => h) rfl ?_
    go_wp2_with (go_at_call 27; refine HTG.out.mono ?_; rintro e w1 ⟨rfl, hw⟩; have hw := hw.symm; subst hw)
    have hG := grown_set (w := W) (g := w.heap.size) (o := 0) (.int .i64 (tog x.t.1 x.t.2.n))
    refine ⟨(keeps_off (S := fun k => k = w.heap.size) (off_set1 _) (fun k hk _ => by subst hk; exact ⟨_, _, _, HI.out.1⟩)).from _, kpj_int HI.out.1 (Nat.le_refl _), ?_, HI.out.2.1.trans ⟨hG.os, hG.tape, hG.output, hG.size, fun k hk => hG.block k (by have := HI.out.2.1.size; omega) (fun e => by injection e; omega)⟩, Nat.le_trans HI.out.2.2 hG.size⟩
    rw [lnv_snoc]
    exact heap_set _ HI.out.1
  case stop =>
    rintro D c pre W hD _ h hDW
    exact h.elim
  case done =>
    rintro D ys W hD hS hI hDW
    subst hT
    have HE := Lib.hid (show W.cell? ⟨w.heap.size, 0, none⟩ = some (.int .i64 (tend Bz.b 0 zs)) from by rw [← lnv_all hS]; exact hI.1.cell 0)
    have c0 := HE.out
    have HBW := Lib.hid hI.2.1
    have HDW := Lib.hid hDW
    have HD := Lib.hid (show w.heap.size ≤ D by have := HLT.out; omega)
    obtain ⟨tv, htv⟩ : ∃ x, tend Bz.b 0 zs = x := ⟨_, rfl⟩
    rw [htv] at c0
    clear hI hDW hD hS
    gi_wp2
    go_wp2
    have hG := grownBy_putObj' W D (.deferred none)
    refine ⟨by simp, .inl ⟨_, _, rfl, run_takeDeferred HDW.out, ?_⟩⟩
    refine ⟨.int .i64 tv, ?_, by rw [← htv], HBW.out.trans ⟨hG.os, hG.tape, hG.output, hG.size, fun k hk => hG.block k (by have := HBW.out.size; omega) (fun e => by injection e with e; have := HD.out; omega)⟩⟩
    simp [results, Try.f11, go_sem]

/-- What a round of At keeps: the number asked for, and the two variables that are told. -/
structure AtW (w0 : World) (n0 : Nat) (i : Int) (u : Value) (bb : Bool) (W : World) : Prop where
  c0 : Cb w0.heap.size 3 #[.int .i64 i] W
  c1 : Cb (w0.heap.size + 1) 24 #[u] W
  c2 : Cb (w0.heap.size + 1 + 1) 4 #[.bool bb] W
  bel : Below w0.heap.size w0 W
  hi : n0 ≤ W.heap.size
section
variable {w0 W W' : World} {n0 : Nat} {i : Int} {u : Value} {bb : Bool}
theorem AtW.grown {row : Option Nat} (h : AtW w0 n0 i u bb W) (hg : W.grownBy W' row) (hr : ∀ r, row = some r → n0 ≤ r ∧ ∃ o : Obj, W.heap[r]? = some o ∧ o.isCells = false) (hB : w0.heap.size ≤ n0) : AtW w0 n0 i u bb W' :=
  ⟨cb_grown h.c0 hg (fun r e => (hr r e).2), cb_grown h.c1 hg (fun r e => (hr r e).2), cb_grown h.c2 hg (fun r e => (hr r e).2), h.bel.grown hg h.bel.size (fun k e => by have := (hr k e).1; omega), Nat.le_trans h.hi hg.size⟩
theorem AtW.below (h : AtW w0 n0 i u bb W) (hb : Below W.heap.size W W') : AtW w0 n0 i u bb W' :=
  ⟨h.c0.below hb, h.c1.below hb, h.c2.below hb, below_add h.bel hb h.bel.size, Nat.le_trans h.hi hb.size⟩
/-- Both variables are set. -/
theorem AtW.set (h : AtW w0 n0 i u bb W) (v : Value) (cc : Bool) : AtW w0 n0 i v cc ((W.setCell ⟨w0.heap.size + 1, 0, none⟩ v).setCell ⟨w0.heap.size + 1 + 1, 0, none⟩ (.bool cc)) ∧
    Off (fun k => k = w0.heap.size + 1 ∨ k = w0.heap.size + 1 + 1) W ((W.setCell ⟨w0.heap.size + 1, 0, none⟩ v).setCell ⟨w0.heap.size + 1 + 1, 0, none⟩ (.bool cc)) ∧ (W.setCell ⟨w0.heap.size + 1, 0, none⟩ v).cell? ⟨w0.heap.size + 1 + 1, 0, none⟩ = some (.bool bb) ∧ (W.setCell ⟨w0.heap.size + 1, 0, none⟩ v).frozen? ⟨w0.heap.size + 1 + 1, 0, none⟩ = false := by
  have o1 := off_set1 (w := W) (g := w0.heap.size + 1) (o := 0) v
  have o2 := off_set1 (w := W.setCell ⟨w0.heap.size + 1, 0, none⟩ v) (g := w0.heap.size + 1 + 1) (o := 0) (.bool cc)
  have d2 := h.c2.off o1 (by omega)
  have oo := (o1.mono (S' := fun k => k = w0.heap.size + 1 ∨ k = w0.heap.size + 1 + 1) (fun k hk => .inl hk)).seq (o2.mono (fun k hk => .inr hk))
  exact ⟨⟨h.c0.off oo (by omega), (show Cb (w0.heap.size + 1) 24 #[v] (W.setCell ⟨w0.heap.size + 1, 0, none⟩ v) from heap_set (o := 0) v h.c1).off o2 (by omega), heap_set _ d2, h.bel.trans (oo.below (fun k hk => by omega) h.bel.size), Nat.le_trans h.hi oo.size⟩, oo, d2.cell 0, d2.frozen 0⟩
end
theorem results_at {fn : Func} {W : World} {a b : Nat} {u v : Value} {p q : Tmp} (hr : fn.results = #[.cell p 24, .cell q 4]) (ha : Cb a 24 #[u] W) (hb : Cb b 4 #[v] W) (tm : Array Value) (h4 : tm.getD p undef = .pointer (some ⟨a, 0, none⟩)) (h5 : tm.getD q undef = .pointer (some ⟨b, 0, none⟩)) :
    (results fn tm).run Try.prog W = .ok (.tuple #[u, v]) W := by
  have c0 := ha.cell 0
  have c1 := hb.cell 0
  have h4' : tm[p]?.getD undef = .pointer (some ⟨a, 0, none⟩) := by simpa using h4
  have h5' : tm[q]?.getD undef = .pointer (some ⟨b, 0, none⟩) := by simpa using h5
  simp at c0 c1
  simp [results, hr, h4', h5', asAddr]
  go_simp
/-- The end of At: the mark is taken, the two variables told. -/
theorem at_end {w0 W : World} {n0 D : Nat} {i : Int} {u : Value} {bb : Bool} (h : AtW w0 n0 i u bb W) (hD : n0 ≤ D) (hn : w0.heap.size + 3 ≤ n0) (hW : W.heap[D]? = some (.deferred (some []))) : AtW w0 n0 i u bb (W.putObj D (.deferred none)) :=
  h.grown (grownBy_putObj' W D (.deferred none)) (fun r e => by cases e; exact ⟨hD, _, hW, rfl⟩) (by omega)
set_option maxHeartbeats 4000000 in
theorem at_any (v : Value) (zs : List Bz) (i : Int) (w : World) (hv : Zrow w v zs) (hwf : ∀ z ∈ zs, z.n ≤ 9223372036854775807) (hi : i ≤ 9223372036854775807) (hsz : ∀ z ∈ zs, z.s.length * 48 ≤ 140737488355328) :
    Calls Try.prog 10 #[v, .int .i64 i] w fun e w' => Below w.heap.size w w' ∧ ((∃ (t : Int × Bz) (a : Option Addr) (c : Nat), t ∈ Tl zs ∧ hit Bz.b i t ∧ e = .returned (.tuple #[.slice a t.2.s.length c, .bool true]) ∧ w'.ownsRow w.heap.size 39 5 (.slice a t.2.s.length c) t.2.s.length (fl attC t.2.s)) ∨
      ((∀ t ∈ Tl zs, ¬ hit Bz.b i t) ∧ e = .returned (.tuple #[.slice none 0 0, .bool false]))) := by
  obtain ⟨va, vc, rfl⟩ := hv.shape
  have HV := Lib.hid hv
  have HWF := Lib.hid hwf
  have HSZ := Lib.hid hsz
  have HI := Lib.hid hi
  obtain ⟨w1, hw1⟩ : ∃ w1, ((w.alloc (.cells #[.int .i64 i] 3)).alloc (.cells #[.slice none 0 0] 24)).alloc (.cells #[.bool false] 4) = w1 := ⟨_, rfl⟩
  have HA1 := Lib.hid (show AtW w (w.heap.size + 3) i (.slice none 0 0) false w1 from by
    subst hw1
    have h1 := (cb_new (w.alloc (.cells #[.int .i64 i] 3)) 24 #[.slice none 0 0]).alloc (.cells #[.bool false] 4)
    have h2 := cb_new ((w.alloc (.cells #[.int .i64 i] 3)).alloc (.cells #[.slice none 0 0] 24)) 4 #[.bool false]
    exact ⟨((cb_new w _ _).alloc _).alloc _, by simpa using h1, by simpa using h2, (((Below.refl _ _).alloc (Nat.le_refl _) _).alloc (by simp) _).alloc (by simp; omega) _, by simp⟩)
  clear hv hwf hsz hi
  refine (callsIn_wide (n := 9)).1 ?_
  refine callsIn_of_wp_marks Try.func10 rfl trivial ?_ rfl
  simp only [Try.ntmps10, List.size_toArray, List.length_cons, List.length_nil, Nat.reduceAdd, Nat.reduceSub, Array.replicate_succ, Array.replicate_zero, List.push_toArray, List.append_toArray, List.nil_append, List.cons_append]
  refine wpIn_wide.2 ?_
  go_upto_region 1 with fail
  refine with_worldT (fun W => AtW w (w.heap.size + 3) i (.slice none 0 0) false W) HA1.out fun W1 hW1 => ?_
  have HA2 := Lib.hid hW1
  clear hW1 HA1 hw1
  go_wp2_with (go_at_call 25; refine (each_any _ _ _ _).mono ?_; rintro e w2 ⟨bx, rfl, hc, hge, bb⟩; have CX := Lib.hid hc; have GE := Lib.hid hge; have B2 := Lib.hid bb; clear hc hge bb)
  have HA := Lib.hid (show AtW w w2.heap.size i (.slice none 0 0) false w2 from by have h := HA2.out.below B2.out; exact ⟨h.c0, h.c1, h.c2, h.bel, Nat.le_refl _⟩)
  have HB0 := Lib.hid HA.out.bel
  have HNP := Lib.hid (fun k (hk : Pt w2 w.heap.size k) => (pt_int HA.out.c0 hk : False))
  have HLT := Lib.hid (show w.heap.size < w2.heap.size from HA.out.c0.lt)
  have HL3 := Lib.hid (show w.heap.size + 3 ≤ w2.heap.size from by have := HA.out.c2.lt; omega)
  clear HA2 B2 GE
  refine (wpIn_wide (n := 9)).1 ?_
  refine act_gen fun T hT => ?_
  refine wpIn_rangeFunc_ownH (α := Ix (Tl zs)) (encs := fun x => #[.int .i64 x.t.1, bv x.t.2.n x.t.2.a x.t.2.s.length x.t.2.c]) (Kp := KpJ w.heap.size w.heap.size) (S := fun ys => ys.map Ix.t = Tl zs) (Sp := fun pre => pre.map Ix.t <+: Tl zs) (N := (Tl zs).length) (w0 := w2) rfl (by decide)
    (gf := 32) (lb := #[.pointer (some ⟨bx, 0, none⟩)]) (by rw [← hT]; rfl) trivial (enters_of Try.func32 (by kernel_rfl) rfl) ?seq (fun h k => h.trans k) ?kb (Below.refl _ _) (fun _ => rfl)
    (fun pre W => AtW w w2.heap.size i (.slice none 0 0) false W ∧ ∀ x ∈ pre, ¬ hit Bz.b i x.t)
    (fun c pre W => (c = .exit 0 ∧ AtW w w2.heap.size i (.slice none 0 0) false W ∧ ∃ (p0 : List (Ix (Tl zs))) (x : Ix (Tl zs)), pre = p0 ++ [x] ∧ (∀ y ∈ p0, ¬ hit Bz.b i y.t) ∧ i < x.t.1) ∨ (c = .ret ∧ ∃ x : Ix (Tl zs), x ∈ pre ∧ hit Bz.b i x.t ∧ ∃ (a : Option Addr) (cc : Nat), AtW w w2.heap.size i (.slice a x.t.2.s.length cc) true W ∧ W.ownsRow w.heap.size 39 5 (.slice a x.t.2.s.length cc) x.t.2.s.length (fl attC x.t.2.s)))
    (fun pre A B' row h hg hr => ⟨h.1.grown hg hr (Nat.le_of_lt HLT.out), h.2⟩)
    (fun c pre A B' row h hg hr => h.imp (fun q => ⟨q.1, q.2.1.grown hg hr (Nat.le_of_lt HLT.out), q.2.2⟩) (fun ⟨q, x, q1, q2, a, cc, q3, q4⟩ => ⟨q, x, q1, q2, a, cc, q3.grown hg hr (Nat.le_of_lt HLT.out), own_grown q4 hg (fun r e => (hr r e).2)⟩))
    ⟨HA.out, by simp⟩
    (fun x a' W => ∃ Bx, w2.heap.size ≤ Bx ∧ Cb Bx 34 (bcs x.t.2.n x.t.2.a x.t.2.s.length x.t.2.c) W ∧ a' = { tmps := ((((T.tmps.setIfInBounds 10 (.int .i64 x.t.1)).setIfInBounds 11 (bv x.t.2.n x.t.2.a x.t.2.s.length x.t.2.c)).setIfInBounds 6 (.int .i64 x.t.1)).setIfInBounds 7 (.pointer (some ⟨Bx, 0, none⟩))), defers := [] })
    (fun x a' _ X Y row hs hg hr => by obtain ⟨Bx, h1, h2, h3⟩ := hs; exact ⟨Bx, h1, cb_grown h2 hg (fun r e => (hr r e).2), h3⟩)
    ?assign ?body ?done ?stop
  case seq =>
    intro ln J Jx W hW hJ hJx hY h0
    exact each1_any (w0 := w) (B0 := w.heap.size) (bx := bx) (bl := w.heap.size) 8 ln (by decide) J Jx (fun pre A A' hA hb => hJ pre A A' none hA ⟨hb.os, hb.tape, hb.output, hb.size, fun k hk _ => hb.block k hk⟩ (fun r e => by cases e)) hY W (CX.out.below hW) HV.out HWF.out rfl (HB0.out.trans (hW.mono HB0.out.size)) (Nat.lt_of_lt_of_le HLT.out hW.size) (by omega)
      (fun k hk => (HNP.out k (pt_same (hW.cell (p := ⟨w.heap.size, 0, none⟩) HLT.out) hk)).elim) h0
  case kb =>
    intro W k o1 o2 hk ho h1 h2
    have := HLT.out
    exact KpJ.putObj o2 ho h1 (by omega) (by omega)
  case assign =>
    rintro ln pre x W K hI hK
    subst hT
    have V4 := Lib.hid (cb_new W 34 (bcs x.t.2.n x.t.2.a x.t.2.s.length x.t.2.c))
    have hb : Below W.heap.size W (W.alloc (.cells (bcs x.t.2.n x.t.2.a x.t.2.s.length x.t.2.c) 34)) := (Below.refl _ W).alloc (Nat.le_refl _) _
    gi_wp2
    exact hK _ _ ((keeps_off (S := fun _ => False) (Off.of_below hb) (fun k h => h.elim)).from _) (KpJ.of_below hb (Nat.le_of_lt (Nat.lt_of_lt_of_le HLT.out hI.1.hi)) (Nat.lt_of_lt_of_le HLT.out hI.1.hi)) ⟨hI.1.below hb, hI.2⟩ ⟨W.heap.size, hI.1.hi, V4.out, rfl⟩
  case body =>
    rintro ln pre x a' W hln ⟨r, hr⟩ hI ⟨Bx, hBx, hcx, rfl⟩ hlt
    subst hT
    have hf := ix_facts x
    have HII := Lib.hid hI
    obtain ⟨x0, x1⟩ := zbox_of hcx
    have c0 := hI.1.c0.cell 0
    have HXS := Lib.hid ((HV.out.sets _ hf.2.2.2).below hI.1.bel (Nat.le_refl _))
    have HCP := Lib.hid (copy_any _ x.t.2.s W HXS.out (HSZ.out _ hf.2.2.2))
    by_cases h1 : i < x.t.1
    · have g1 : decide (i < x.t.1) = true := decide_eq_true h1
      clear hI hcx hf
      refine wpIn_block ?_
      gi_wp2
      exact ⟨KeepsFrom.refl _ _, .inl ⟨rfl, HII.out.1, pre, x, rfl, HII.out.2, h1⟩⟩
    · have g1 : decide (i < x.t.1) = false := decide_eq_false h1
      have e1 : IntKind.i64.wrap (i - x.t.1) = i - x.t.1 := by have := HI.out; rw [IntKind.wrap_i64]; omega
      by_cases h2 : i - x.t.1 < x.t.2.n
      · have g2 : decide (i - x.t.1 < x.t.2.n) = true := decide_eq_true h2
        have HH := Lib.hid (show hit Bz.b i x.t from ⟨by omega, h2⟩)
        clear hI hcx hf
        refine wpIn_block ?_
        gi_wp2_with (refine ⟨trivial, ?_⟩; gi_at_call 26; refine (CallsIn.inRound _ (callsIn_wide.2 HCP.out)).mono ?_; rintro e w5 ⟨ca, cc, rfl, hco, hb5⟩; have HA5 := Lib.hid (HII.out.1.below hb5); have hs5 := HA5.out.set (.slice ca x.t.2.s.length cc) true; have c51 := HA5.out.c1.cell 0; have f51 := HA5.out.c1.frozen 0; have c52 := hs5.2.2.1; have f52 := hs5.2.2.2; have HS5 := Lib.hid hs5; clear hs5)
        refine ⟨(keeps_off ((Off.of_below hb5).seq HS5.out.2.1) (fun k hk _ => by
          rcases hk with rfl | rfl
          · exact ⟨_, _, _, HII.out.1.c1⟩
          · exact ⟨_, _, _, HII.out.1.c2⟩)).from _, .inr ⟨rfl, x, by simp, HH.out, ca, cc, HS5.out.1, ?_⟩⟩
        exact owns_kept (owns_mono hco HII.out.1.bel.size) (fun g hg => HS5.out.2.1.block g (own_lt7 hco hg) (fun hh => by have := own_base hco hg; have := HII.out.1.c2.lt; omega))
      · have g2 : decide (i - x.t.1 < x.t.2.n) = false := decide_eq_false h2
        have HH := Lib.hid (show ¬ hit Bz.b i x.t from fun h => h2 h.2)
        clear hI hcx hf
        refine wpIn_block ?_
        gi_wp2
        exact ⟨KeepsFrom.refl _ _, KpJ.refl _ _ _, HII.out.1, fun y hy => by
          rcases List.mem_append.1 hy with hy | hy
          · exact HII.out.2 y hy
          · obtain rfl := List.mem_singleton.1 hy
            exact HH.out⟩
  case stop =>
    rintro D c pre W hD hS h hDW
    subst hT
    rcases h with ⟨rfl, h1, p0, x, rfl, h2, h3⟩ | ⟨rfl, x, hx, h1, a, cc, h2, h3⟩
    · have HNH := Lib.hid (show ∀ t ∈ Tl zs, ¬ hit Bz.b i t from by
        obtain ⟨tl, htl⟩ := hS
        rw [List.map_append] at htl
        have hr := tel_rise Bz.b zs (b := 0) (A := p0.map Ix.t) (t := x.t) (B := tl) (by decide) (by decide) (by unfold Tl at htl; rw [← htl, List.append_assoc]; rfl)
        intro t ht
        rw [← htl] at ht
        rcases List.mem_append.1 ht with ht | ht
        · rcases List.mem_append.1 ht with ht | ht
          · obtain ⟨y, hy, rfl⟩ := List.mem_map.1 ht
            exact h2 y hy
          · obtain rfl := List.mem_singleton.1 ht
            exact fun hh => by have := hh.1; omega
        · exact fun hh => by have := hr t ht; have := hh.1; omega)
      have HDW := Lib.hid hDW
      have HD := Lib.hid hD
      have hs := h1.set (.slice none 0 0) false
      have c51 := h1.c1.cell 0
      have f51 := h1.c1.frozen 0
      have c52 := hs.2.2.1
      have f52 := hs.2.2.2
      have HS := Lib.hid hs
      have HDS := Lib.hid (show ((W.setCell ⟨w.heap.size + 1, 0, none⟩ (.slice none 0 0)).setCell ⟨w.heap.size + 1 + 1, 0, none⟩ (.bool false)).heap[D]? = some (.deferred (some [])) from (hs.2.1.block D (lt_of_heap hDW) (fun hh => by have := HL3.out; omega)).trans hDW)
      clear hs h1 hDW hD hS h2 h3
      gi_wp2
      go_wp2
      have he := at_end HS.out.1 HD.out HL3.out HDS.out
      refine ⟨by simp, .inl ⟨_, _, rfl, run_takeDeferred HDS.out, ?_⟩⟩
      exact ⟨.tuple #[.slice none 0 0, .bool false], results_at rfl he.c1 he.c2 _ rfl rfl, he.bel, .inr ⟨HNH.out, rfl⟩⟩
    · have he := at_end h2 hD HL3.out hDW
      have ho := own_grown h3 (grownBy_putObj' W D (.deferred none)) (fun r e => by cases e; exact ⟨_, hDW, rfl⟩)
      have HH := Lib.hid (And.intro h1 (And.intro he ho))
      have HXM := Lib.hid (show x.t ∈ Tl zs from x.h)
      clear h1 he ho h2 h3 hx
      gi_wp2
      refine ⟨by simp, .inl ⟨_, _, rfl, run_takeDeferred hDW, ?_⟩⟩
      exact ⟨.tuple #[.slice a x.t.2.s.length cc, .bool true], results_at rfl HH.out.2.1.c1 HH.out.2.1.c2 _ rfl rfl, HH.out.2.1.bel, .inl ⟨x.t, a, cc, HXM.out, HH.out.1, rfl, HH.out.2.2⟩⟩
  case done =>
    rintro D ys W hD hS hI hDW
    subst hT
    have HNH := Lib.hid (show ∀ t ∈ Tl zs, ¬ hit Bz.b i t from by
      intro t ht
      have ht2 : t ∈ ys.map Ix.t := by rw [show ys.map Ix.t = Tl zs from hS]; exact ht
      obtain ⟨y, hy, rfl⟩ := List.mem_map.1 ht2
      exact hI.2 y hy)
    have h1 := hI.1
    have HDW := Lib.hid hDW
    have HD := Lib.hid hD
    have hs := h1.set (.slice none 0 0) false
    have c51 := h1.c1.cell 0
    have f51 := h1.c1.frozen 0
    have c52 := hs.2.2.1
    have f52 := hs.2.2.2
    have HS := Lib.hid hs
    have HDS := Lib.hid (show ((W.setCell ⟨w.heap.size + 1, 0, none⟩ (.slice none 0 0)).setCell ⟨w.heap.size + 1 + 1, 0, none⟩ (.bool false)).heap[D]? = some (.deferred (some [])) from (hs.2.1.block D (lt_of_heap hDW) (fun hh => by have := HL3.out; omega)).trans hDW)
    clear hs h1 hDW hD hS hI
    gi_wp2
    go_wp2
    have he := at_end HS.out.1 HD.out HL3.out HDS.out
    refine ⟨by simp, .inl ⟨_, _, rfl, run_takeDeferred HDS.out, ?_⟩⟩
    exact ⟨.tuple #[.slice none 0 0, .bool false], results_at rfl he.c1 he.c2 _ rfl rfl, he.bel, .inr ⟨HNH.out, rfl⟩⟩
end Go.Proofs.Ytclbjfeneegicaa
