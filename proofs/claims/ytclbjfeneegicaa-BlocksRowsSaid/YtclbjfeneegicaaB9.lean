
import Derived.Test.YtclbjfeneegicaaB8
/- B9: Cut -/
namespace Go.Proofs.Ytclbjfeneegicaa
open Go.RowKit Go.Shelf
set_option linter.unusedVariables false
set_option maxRecDepth 100000
attribute [local go_sem] Oper.semAt_some

/-- What is cut out of what was told. -/
def cutL {T : List (Int × Bz)} (i j : Int) (pre : List (Ix T)) : List (List Att) := pre.flatMap fun x => pieceC Bz.b i j x.t
theorem cutl_snoc {T : List (Int × Bz)} (i j : Int) (pre : List (Ix T)) (x : Ix T) : cutL i j (pre ++ [x]) = cutL i j pre ++ pieceC Bz.b i j x.t := by simp [cutL]
theorem cutl_le {zs : List Bz} (i j : Int) : ∀ pre : List (Ix (Tl zs)), (cutL i j pre).length ≤ (ex (pre.map Ix.k)).length
  | [] => Nat.le_refl _
  | x :: r => by
    have ih := cutl_le i j r
    have e1 : cutL i j (x :: r) = pieceC Bz.b i j x.t ++ cutL i j r := rfl
    rw [e1, List.map_cons, ex_cons, List.length_append, List.length_append, plc_len]
    have e2 : (pieceC Bz.b i j x.t).length ≤ x.k.n.toNat := by
      unfold pieceC Ix.k
      rw [List.length_replicate]
      have : 0 ≤ max (i - x.t.1) 0 := by omega
      show (min (j - x.t.1) x.t.2.b.n - max (i - x.t.1) 0).toNat ≤ x.t.2.b.n.toNat
      omega
    omega
theorem cutl_of {zs : List Bz} (i j : Int) (hi : 0 ≤ i) (hl : lenB (zs.map Bz.b) ≤ 9223372036854775807) {pre : List (Ix (Tl zs))} (h : (pre.map Ix.t).flatMap (pieceC Bz.b i j) = (Tl zs).flatMap (pieceC Bz.b i j)) : cutL i j pre = ((ex (zs.map Bz.b)).take j.toNat).drop i.toNat := by
  have e := cut_tel Bz.b i j hi zs (b := 0) (by decide) (by omega)
  rw [Int.sub_zero, Int.sub_zero] at e
  rw [← e]
  show _ = (Tl zs).flatMap _
  rw [← h, List.flatMap_map]; rfl
theorem cutl_stop {zs : List Bz} (i j : Int) {p0 : List (Ix (Tl zs))} {x : Ix (Tl zs)} (h : (p0 ++ [x]).map Ix.t <+: Tl zs) (hx : j ≤ x.t.1) : (p0.map Ix.t).flatMap (pieceC Bz.b i j) = (Tl zs).flatMap (pieceC Bz.b i j) := by
  obtain ⟨tl, htl⟩ := h
  rw [List.map_append] at htl
  have hr := tel_rise Bz.b zs (b := 0) (A := p0.map Ix.t) (t := x.t) (B := tl) (by decide) (by decide) (by unfold Tl at htl; rw [← htl, List.append_assoc]; rfl)
  have e0 : (Tl zs).flatMap (pieceC Bz.b i j) = (p0.map Ix.t ++ [x].map Ix.t ++ tl).flatMap (pieceC Bz.b i j) := congrArg _ htl.symm
  rw [e0, List.flatMap_append, List.flatMap_append]
  have e1 : tl.flatMap (pieceC Bz.b i j) = [] := by
    rw [List.flatMap_eq_nil_iff]
    intro u hu
    exact pieceC_past Bz.b (Int.le_trans hx (hr u hu))
  have e2 : ([x].map Ix.t).flatMap (pieceC Bz.b i j) = [] := by
    show pieceC Bz.b i j x.t ++ [] = []
    rw [pieceC_past Bz.b hx]; rfl
  rw [e1, e2, List.append_nil, List.append_nil]
/-- What a round of Cut keeps. -/
structure CuK (w0 : World) (n0 : Nat) (i j : Int) (p : List (List Att)) (m : Nat) (zs : List Bz) (u : Value) (W : World) : Prop where
  k : JnK w0 (w0.heap.size + 1 + 1) n0 p m zs u W
  c0 : Cb w0.heap.size 3 #[.int .i64 i] W
  c1 : Cb (w0.heap.size + 1) 3 #[.int .i64 j] W
section
variable {w0 W W' : World} {n0 m : Nat} {i j : Int} {p : List (List Att)} {zs : List Bz} {u : Value}
theorem CuK.grown {row : Option Nat} (h : CuK w0 n0 i j p m zs u W) (hg : W.grownBy W' row) (hr : ∀ r, row = some r → n0 ≤ r ∧ ∃ o : Obj, W.heap[r]? = some o ∧ o.isCells = false) (hB : w0.heap.size ≤ n0) : CuK w0 n0 i j p m zs u W' :=
  ⟨h.k.grown hg hr hB, cb_grown h.c0 hg (fun r e => (hr r e).2), cb_grown h.c1 hg (fun r e => (hr r e).2)⟩
theorem CuK.below (h : CuK w0 n0 i j p m zs u W) (hb : Below W.heap.size W W') : CuK w0 n0 i j p m zs u W' := ⟨h.k.below hb, h.c0.below hb, h.c1.below hb⟩
/-- What a region of a round reads. -/
def CuS (b0 Bx : Nat) (i j n : Int) (W : World) : Prop := W.cell? ⟨b0, 0, none⟩ = some (.int .i64 i) ∧ W.cell? ⟨b0 + 1, 0, none⟩ = some (.int .i64 j) ∧ W.cell? ⟨Bx, 0, none⟩ = some (.int .i64 n)
end
set_option maxHeartbeats 4000000 in
theorem cut_any (v : Value) (zs : List Bz) (i j : Int) (w : World) (hv : Zrow w v zs) (hl : zs.length ≤ 1000) (hn : ∀ z ∈ zs, z.n ≤ 1125899906842624) (hs : ∀ z ∈ zs, z.s.length ≤ 1000) (hi : i ≤ 9223372036854775807) (hj0 : -9223372036854775808 ≤ j) (hj : j ≤ 9223372036854775807) :
    Calls Try.prog 15 #[v, .int .i64 i, .int .i64 j] w fun e w' => ∃ a c zs', e = .returned (.slice a zs'.length c) ∧ Zown w.heap.size w' (.slice a zs'.length c) zs' ∧ Rep (zs'.map Bz.b) (((ex (zs.map Bz.b)).take j.toNat).drop i.toNat) ∧ zs'.length ≤ zs.length ∧ Below w.heap.size w w' := by
  obtain ⟨va, vc, rfl⟩ := hv.shape
  have HV := Lib.hid hv
  have HL := Lib.hid hl
  have HN := Lib.hid hn
  have HS := Lib.hid hs
  have HWF := Lib.hid (show ∀ z ∈ zs, z.n ≤ 9223372036854775807 from fun z hz => Int.le_trans (hn z hz) (by decide))
  have HLB := Lib.hid (show lenB (zs.map Bz.b) ≤ 9223372036854775807 from by
    have := lenB_le (l := zs.map Bz.b) (m := 1000) (N := 1125899906842624) (fun b hb => by obtain ⟨z, hz, rfl⟩ := List.mem_map.1 hb; exact hn z hz) (by decide) (by simpa using hl)
    omega)
  obtain ⟨i2, hi2⟩ : ∃ x, (if i < 0 then (0 : Int) else i) = x := ⟨_, rfl⟩
  have HI := Lib.hid (show 0 ≤ i2 ∧ i2 ≤ 9223372036854775807 ∧ i2.toNat = i.toNat ∧ -9223372036854775808 ≤ j ∧ j ≤ 9223372036854775807 from by rw [← hi2]; split <;> omega)
  have HI2 := Lib.hid hi2
  obtain ⟨w1, hw1⟩ : ∃ w1, ((w.alloc (.cells #[.int .i64 i] 3)).alloc (.cells #[.int .i64 j] 3)).alloc (.cells #[.slice none 0 0] 22) = w1 := ⟨_, rfl⟩
  have HA1 := Lib.hid (show (Cb w.heap.size 3 #[.int .i64 i] w1 ∧ Cb (w.heap.size + 1) 3 #[.int .i64 j] w1 ∧ Cb (w.heap.size + 1 + 1) 22 #[.slice none 0 0] w1 ∧ Below w.heap.size w w1) from by
    subst hw1
    have h1 := (cb_new (w.alloc (.cells #[.int .i64 i] 3)) 3 #[.int .i64 j]).alloc (.cells #[.slice none 0 0] 22)
    have h2 := cb_new ((w.alloc (.cells #[.int .i64 i] 3)).alloc (.cells #[.int .i64 j] 3)) 22 #[.slice none 0 0]
    exact ⟨((cb_new w _ _).alloc _).alloc _, by simpa using h1, by simpa using h2, (((Below.refl _ _).alloc (Nat.le_refl _) _).alloc (by simp) _).alloc (by simp; omega) _⟩)
  clear hv hl hn hs hi hj hj0 hi2
  refine (callsIn_wide (n := 9)).1 ?_
  refine callsIn_of_wp_marks Try.func15 rfl trivial ?_ rfl
  simp only [Try.ntmps15, List.size_toArray, List.length_cons, List.length_nil, Nat.reduceAdd, Nat.reduceSub, Array.replicate_succ, Array.replicate_zero, List.push_toArray, List.append_toArray, List.nil_append, List.cons_append]
  refine wpIn_wide.2 ?_
  go_upto_region 2 with fail
  refine with_worldT (fun W => (Cb w.heap.size 3 #[.int .i64 i] W ∧ Cb (w.heap.size + 1) 3 #[.int .i64 j] W ∧ Cb (w.heap.size + 1 + 1) 22 #[.slice none 0 0] W ∧ Below w.heap.size w W)) HA1.out fun W1 hW1 => ?_
  have c00 := hW1.1.cell 0
  have f00 := hW1.1.frozen 0
  have HW2 := Lib.hid (show Cb w.heap.size 3 #[.int .i64 i2] (W1.setCell ⟨w.heap.size, 0, none⟩ (.int .i64 i2)) ∧ Cb (w.heap.size + 1) 3 #[.int .i64 j] (W1.setCell ⟨w.heap.size, 0, none⟩ (.int .i64 i2)) ∧ Cb (w.heap.size + 1 + 1) 22 #[.slice none 0 0] (W1.setCell ⟨w.heap.size, 0, none⟩ (.int .i64 i2)) ∧ Below w.heap.size w (W1.setCell ⟨w.heap.size, 0, none⟩ (.int .i64 i2)) from by
    have o1 := off_set1 (w := W1) (g := w.heap.size) (o := 0) (.int .i64 i2)
    exact ⟨heap_set _ hW1.1, hW1.2.1.off o1 (by omega), hW1.2.2.1.off o1 (by omega), hW1.2.2.2.trans (o1.below (fun k hk => by omega) hW1.2.2.2.size)⟩)
  clear hW1 HA1 hw1
  go_upto_region 3 with fail
  rw [HI2.out]
  refine with_worldT (fun W => Cb w.heap.size 3 #[.int .i64 i2] W ∧ Cb (w.heap.size + 1) 3 #[.int .i64 j] W ∧ Cb (w.heap.size + 1 + 1) 22 #[.slice none 0 0] W ∧ Below w.heap.size w W) HW2.out fun W2 hW2 => ?_
  have HW3 := Lib.hid hW2
  clear c00 f00 HW2 hW2
  go_wp2_with (go_at_call 25; refine (each_any _ _ _ _).mono ?_; rintro e w2 ⟨bx, rfl, hc, hge, bb⟩; have CX := Lib.hid hc; have GE := Lib.hid hge; have B2 := Lib.hid bb; clear hc hge bb)
  have HB0 := Lib.hid (show Below w.heap.size w w2 from below_add HW3.out.2.2.2 B2.out HW3.out.2.2.2.size)
  have CL := Lib.hid (HW3.out.2.2.1.below B2.out)
  have HNP := Lib.hid (fun k (hk : Pt w2 (w.heap.size + 1 + 1) k) => (pt_nil CL.out hk : False))
  have HI0 := Lib.hid (show CuK w w2.heap.size i2 j (cutL i2 j ([] : List (Ix (Tl zs)))) 0 [] (.slice none 0 0) w2 from ⟨⟨Rep.nil, Nat.le_refl _, fun _ => rfl, CL.out, Zown.nil _ _, HB0.out, Nat.le_refl _⟩, HW3.out.1.below B2.out, HW3.out.2.1.below B2.out⟩)
  have HLT := Lib.hid (show w.heap.size + 1 + 1 < w2.heap.size from CL.out.lt)
  clear HW3 B2 GE
  refine (wpIn_wide (n := 9)).1 ?_
  refine act_gen fun T hT => ?_
  refine wpIn_rangeFunc_ownH (α := Ix (Tl zs)) (encs := fun x => #[.int .i64 x.t.1, bv x.t.2.n x.t.2.a x.t.2.s.length x.t.2.c]) (Kp := KpJ w.heap.size (w.heap.size + 1 + 1)) (S := fun ys => ys.map Ix.t = Tl zs) (Sp := fun pre => pre.map Ix.t <+: Tl zs) (N := (Tl zs).length) (w0 := w2) rfl (by decide)
    (gf := 32) (lb := #[.pointer (some ⟨bx, 0, none⟩)]) (by rw [← hT]; rfl) trivial (enters_of Try.func32 (by kernel_rfl) rfl) ?seq (fun h k => h.trans k) ?kb (Below.refl _ _) (fun _ => rfl)
    (fun pre W => ∃ zs' u, CuK w w2.heap.size i2 j (cutL i2 j pre) pre.length zs' u W)
    (fun c pre W => c = .exit 0 ∧ ∃ (p0 : List (Ix (Tl zs))) (x : Ix (Tl zs)) (zs' : List Bz) (u : Value), pre = p0 ++ [x] ∧ j ≤ x.t.1 ∧ CuK w w2.heap.size i2 j (cutL i2 j p0) p0.length zs' u W)
    (fun pre A B' row h hg hr => by obtain ⟨zs', u, h⟩ := h; exact ⟨zs', u, h.grown hg hr (by have := HLT.out; omega)⟩)
    (fun c pre A B' row h hg hr => by obtain ⟨q, p0, x, zs', u, q1, q2, h⟩ := h; exact ⟨q, p0, x, zs', u, q1, q2, h.grown hg hr (by have := HLT.out; omega)⟩)
    ⟨_, _, HI0.out⟩
    (fun x a' W => ∃ Bx, w2.heap.size ≤ Bx ∧ Cb Bx 34 (bcs x.t.2.n x.t.2.a x.t.2.s.length x.t.2.c) W ∧ a' = { tmps := ((((T.tmps.setIfInBounds 16 (.int .i64 x.t.1)).setIfInBounds 17 (bv x.t.2.n x.t.2.a x.t.2.s.length x.t.2.c)).setIfInBounds 8 (.int .i64 x.t.1)).setIfInBounds 9 (.pointer (some ⟨Bx, 0, none⟩))), defers := [] })
    (fun x a' _ X Y row hs hg hr => by obtain ⟨Bx, h1, h2, h3⟩ := hs; exact ⟨Bx, h1, cb_grown h2 hg (fun r e => (hr r e).2), h3⟩)
    ?assign ?body ?done ?stop
  case seq =>
    intro ln J Jx W hW hJ hJx hY h0
    exact each1_any (w0 := w) (B0 := w.heap.size) (bx := bx) (bl := (w.heap.size + 1 + 1)) 8 ln (by decide) J Jx (fun pre A A' hA hb => hJ pre A A' none hA ⟨hb.os, hb.tape, hb.output, hb.size, fun k hk _ => hb.block k hk⟩ (fun r e => by cases e)) hY W (CX.out.below hW) HV.out HWF.out rfl (HB0.out.trans (hW.mono HB0.out.size)) (Nat.lt_of_lt_of_le HLT.out hW.size) (by omega)
      (fun k hk => (HNP.out k (pt_same (hW.cell (p := ⟨(w.heap.size + 1 + 1), 0, none⟩) HLT.out) hk)).elim) h0
  case kb =>
    intro W k o1 o2 hk ho h1 h2
    have := HLT.out
    exact KpJ.putObj o2 ho h1 (by omega) (by omega)
  case assign =>
    rintro ln pre x W K hI hK
    subst hT
    have V4 := Lib.hid (cb_new W 34 (bcs x.t.2.n x.t.2.a x.t.2.s.length x.t.2.c))
    have hb : Below W.heap.size W (W.alloc (.cells (bcs x.t.2.n x.t.2.a x.t.2.s.length x.t.2.c) 34)) := (Below.refl _ W).alloc (Nat.le_refl _) _
    gi_wp2
    obtain ⟨zs', u, hI⟩ := hI
    have hhi := hI.k.hi
    exact hK _ _ ((keeps_off (S := fun _ => False) (Off.of_below hb) (fun k h => h.elim)).from _) (KpJ.of_below hb (by have := HLT.out; omega) (by have := HLT.out; omega)) ⟨zs', u, hI.below hb⟩ ⟨W.heap.size, hhi, V4.out, rfl⟩
  case body =>
    rintro ln pre x a' W hln ⟨r, hr⟩ ⟨zs', u, hI⟩ ⟨Bx, hBx, hcx, rfl⟩ hlt
    subst hT
    have hf := ix_facts x
    have hpl : pre.length ≤ 1000 := by have := tl_len zs; have := HL.out; omega
    have hbd := Nat.le_trans (cutl_le i2 j pre) (ix_bound HN.out pre hpl)
    have hxn := HN.out _ hf.2.2.2
    have c1 := hI.c1.cell 0
    have HII := Lib.hid hI
    by_cases h1 : j ≤ x.t.1
    · have g1 : decide (j ≤ x.t.1) = true := decide_eq_true h1
      clear hI hcx hf hbd hxn
      refine wpIn_block ?_
      gi_wp2
      exact ⟨KeepsFrom.refl _ _, rfl, pre, x, zs', u, rfl, h1, HII.out⟩
    have g1 : decide (j ≤ x.t.1) = false := decide_eq_false h1
    have e1 : IntKind.i64.wrap (i2 - x.t.1) = i2 - x.t.1 := by have := HI.out; rw [IntKind.wrap_i64]; omega
    have e2 : IntKind.i64.wrap (j - x.t.1) = j - x.t.1 := by have := HI.out; rw [IntKind.wrap_i64]; omega
    obtain ⟨F, hF⟩ : ∃ F, (if i2 - x.t.1 < 0 then (0 : Int) else i2 - x.t.1) = F := ⟨_, rfl⟩
    obtain ⟨G, hG⟩ : ∃ G, (if x.t.2.n < j - x.t.1 then x.t.2.n else j - x.t.1) = G := ⟨_, rfl⟩
    have hFm : F = max (i2 - x.t.1) 0 := by rw [← hF]; split <;> omega
    have hGm : G = min (j - x.t.1) x.t.2.n := by rw [← hG]; split <;> omega
    have HF := Lib.hid hF
    have HGG := Lib.hid hG
    have HFG := Lib.hid (show pieceC Bz.b i2 j x.t = List.replicate (G - F).toNat x.t.2.s from by rw [hFm, hGm]; rfl)
    have HFB := Lib.hid (show 0 ≤ F ∧ G ≤ x.t.2.n ∧ 0 < x.t.2.n ∧ x.t.2.n ≤ 1125899906842624 from by rw [hFm, hGm]; have := hf.2.2.1; omega)
    clear hF hG hFm hGm
    have HCX := Lib.hid hcx
    have HBD := Lib.hid hbd
    have HXM := Lib.hid hf.2.2.2
    have HPL := Lib.hid hpl
    clear hI hcx hf hbd hxn hpl
    refine wpIn_block ?_
    gi_wp2
    refine drawnIn_of_plain (CuS w.heap.size Bx i2 j x.t.2.n) (fun _ _ h => h) rfl (by kernel_rfl) ?_
    have hdw : Below W.heap.size W W.drew := (Below.refl _ _).drew
    have HSX := Lib.hid (show CuS w.heap.size Bx i2 j x.t.2.n W.drew from ⟨(HII.out.c0.below hdw).cell 0, (HII.out.c1.below hdw).cell 0, (HCX.out.below hdw).cell 0⟩)
    have HI4 := Lib.hid (HII.out.below hdw)
    have HWH := Lib.hid (show w2.heap.size ≤ W.heap.size from HII.out.k.hi)
    have HDW4 := Lib.hid hdw
    have HX4 := Lib.hid (HCX.out.below hdw)
    clear c1 hdw HII HCX
    generalize W.drew = W4 at *
    refine h_val (i := 0) (v := .int .i64 i2) rfl (by kernel_rfl) (by kernel_rfl) (by kernel_rfl) (fun _ _ _ h => h) (by rfl) (fun wz hS => ?_) HSX.out ?_
    · obtain ⟨q0, q1, q2⟩ := hS
      go_simp
    go_frame
    refine h_val (i := 1) (v := .int .i64 x.t.1) rfl (by kernel_rfl) (by kernel_rfl) (by kernel_rfl) (fun _ _ _ h => h) (by rfl) (fun wz hS => ?_) HSX.out ?_
    · obtain ⟨q0, q1, q2⟩ := hS
      go_simp
    go_frame
    refine h_val (i := 2) (v := .int .i64 (i2 - x.t.1)) rfl (by kernel_rfl) (by kernel_rfl) (by kernel_rfl) (fun _ _ _ h => h) (by rfl) (fun wz hS => ?_) HSX.out ?_
    · obtain ⟨q0, q1, q2⟩ := hS
      go_simp
    go_frame
    refine h_val (i := 3) (v := .int .i64 F) rfl (by kernel_rfl) (by kernel_rfl) (by kernel_rfl) (fun _ _ _ h => h) (by rfl) (fun wz hS => ?_) HSX.out ?_
    · obtain ⟨q0, q1, q2⟩ := hS
      go_simp; rw [HF.out]
    go_frame
    refine h_val (i := 4) (v := .int .i64 j) rfl (by kernel_rfl) (by kernel_rfl) (by kernel_rfl) (fun _ _ _ h => h) (by rfl) (fun wz hS => ?_) HSX.out ?_
    · obtain ⟨q0, q1, q2⟩ := hS
      go_simp
    go_frame
    refine h_val (i := 5) (v := .int .i64 x.t.1) rfl (by kernel_rfl) (by kernel_rfl) (by kernel_rfl) (fun _ _ _ h => h) (by rfl) (fun wz hS => ?_) HSX.out ?_
    · obtain ⟨q0, q1, q2⟩ := hS
      go_simp
    go_frame
    refine h_val (i := 6) (v := .int .i64 (j - x.t.1)) rfl (by kernel_rfl) (by kernel_rfl) (by kernel_rfl) (fun _ _ _ h => h) (by rfl) (fun wz hS => ?_) HSX.out ?_
    · obtain ⟨q0, q1, q2⟩ := hS
      go_simp
    go_frame
    refine h_val (i := 7) (v := .pointer (some ⟨Bx, 0, none⟩)) rfl (by kernel_rfl) (by kernel_rfl) (by kernel_rfl) (fun _ _ _ h => h) (by rfl) (fun wz hS => ?_) HSX.out ?_
    · obtain ⟨q0, q1, q2⟩ := hS
      go_simp
    go_frame
    refine h_val (i := 8) (v := .int .i64 x.t.2.n) rfl (by kernel_rfl) (by kernel_rfl) (by kernel_rfl) (fun _ _ _ h => h) (by rfl) (fun wz hS => ?_) HSX.out ?_
    · obtain ⟨q0, q1, q2⟩ := hS
      go_simp
    go_frame
    refine h_val (i := 9) (v := .int .i64 G) rfl (by kernel_rfl) (by kernel_rfl) (by kernel_rfl) (fun _ _ _ h => h) (by rfl) (fun wz hS => ?_) HSX.out ?_
    · obtain ⟨q0, q1, q2⟩ := hS
      go_simp; rw [HGG.out]
    go_frame
    refine h_val (i := 10) (v := .int .i64 F) rfl (by kernel_rfl) (by kernel_rfl) (by kernel_rfl) (fun _ _ _ h => h) (by rfl) (fun wz hS => ?_) HSX.out ?_
    · obtain ⟨q0, q1, q2⟩ := hS
      go_simp
    go_frame
    refine h_val (i := 11) (v := .int .i64 G) rfl (by kernel_rfl) (by kernel_rfl) (by kernel_rfl) (fun _ _ _ h => h) (by rfl) (fun wz hS => ?_) HSX.out ?_
    · obtain ⟨q0, q1, q2⟩ := hS
      go_simp
    go_frame
    refine h_done (by kernel_rfl) ?_
    clear HSX
    have HKP := Lib.hid (show KeepsFrom w2.heap.size W W4 ∧ KpJ w.heap.size (w.heap.size + 1 + 1) W W4 from ⟨(keeps_off (S := fun _ => False) (Off.of_below HDW4.out) (fun k h => h.elim)).from _, KpJ.of_below HDW4.out (by have := HLT.out; have := HWH.out; omega) (by have := HLT.out; have := HWH.out; omega)⟩)
    by_cases h2 : F < G
    · have g2 : decide (F < G) = true := decide_eq_true h2
      have e3 : IntKind.i64.wrap (G - F) = G - F := by have := HFB.out; rw [IntKind.wrap_i64]; omega
      have HP := Lib.hid (put_any w2.heap.size zs' u (G - F) x.t.2.a x.t.2.c x.t.2.s W4 HI4.out.k.own HI4.out.k.z0 ((HV.out.sets _ HXM.out).below HI4.out.k.bel (Nat.le_refl _)) HI4.out.k.hi (HS.out _ HXM.out) (by have := HI4.out.k.ln; have := HPL.out; omega) HI4.out.k.rep (by omega) (by have := HBD.out; have := HFB.out; omega))
      have HNX := Lib.hid (fun zs2 u2 (w1 : World) ho hr hl hl2 hO hq => jnk_next (w1 := w1) (zs' := zs2) (u' := u2) (p' := cutL i2 j pre ++ List.replicate (G - F).toNat x.t.2.s) HI4.out.k (by omega) HLT.out ho hr hl hl2 hO hq)
      have HEX := Lib.hid (show cutL i2 j (pre ++ [x]) = cutL i2 j pre ++ List.replicate (G - F).toNat x.t.2.s by rw [cutl_snoc, HFG.out])
      have HPL1 := Lib.hid (show (pre ++ [x]).length = pre.length + 1 by simp)
      have hup := own_base (k := w.heap.size + 1 + 1) HI4.out.k.own.row
      have HUP := Lib.hid (show ∀ k, u.ownBlock = some k → w2.heap.size ≤ k from fun k hk => own_base HI4.out.k.own.row hk)
      obtain ⟨ua, uc, rfl⟩ := HI4.out.k.own.shape
      have c3 : W4.cell? ⟨w.heap.size + 1 + 1, 0, none⟩ = some (.slice ua zs'.length uc) := HI4.out.k.c.cell 0
      obtain ⟨x0, x1⟩ := zbox_of HX4.out
      clear hup
      gi_wp2_with (refine ⟨trivial, ?_⟩; gi_at_call 28; refine (CallsIn.inRound _ (callsIn_wide.2 HP.out)).mono ?_; rintro e w1 ⟨ra, rc, zs2, rfl, q1, q2, q3, q4, q5, q6⟩; have HQ := Lib.hid (HNX.out zs2 (.slice ra zs2.length rc) w1 q1 q2 q3 q4 q5 q6); have HO5 := Lib.hid q5; have C5 := HI4.out.k.c.off q5 (fun hh => by have := HUP.out _ hh; have := HLT.out; omega); have c5 : w1.cell? ⟨w.heap.size + 1 + 1, 0, none⟩ = some (.slice ua zs'.length uc) := C5.cell 0; have f5 := C5.frozen 0; clear q1 q2 q3 q4 q5 q6 C5)
      have hO6 := (HO5.out.mono (S' := fun k => k = w.heap.size + 1 + 1 ∨ w2.heap.size ≤ k) (fun k hk => .inr (HUP.out k hk))).seq ((off_set1 (w := w1) (g := w.heap.size + 1 + 1) (o := 0) (.slice ra zs2.length rc)).mono (fun k hk => .inl hk))
      refine ⟨HKP.out.1.trans HQ.out.1, HKP.out.2.trans HQ.out.2.1, zs2, .slice ra zs2.length rc, ?_⟩
      rw [HEX.out, HPL1.out]
      exact ⟨HQ.out.2.2, HI4.out.c0.off hO6 (by have := HLT.out; omega), HI4.out.c1.off hO6 (by have := HLT.out; omega)⟩
    · have g2 : decide (F < G) = false := decide_eq_false h2
      have HE := Lib.hid (show cutL i2 j (pre ++ [x]) = cutL i2 j pre from by rw [cutl_snoc, HFG.out, show (G - F).toNat = 0 by omega]; simp)
      gi_wp2
      refine ⟨HKP.out.1, HKP.out.2, zs', u, ?_⟩
      rw [HE.out]
      exact ⟨⟨HI4.out.k.rep, by rw [List.length_append]; exact Nat.le_trans HI4.out.k.ln (Nat.le_add_right _ _), HI4.out.k.z0, HI4.out.k.c, HI4.out.k.own, HI4.out.k.bel, HI4.out.k.hi⟩, HI4.out.c0, HI4.out.c1⟩
  case stop =>
    rintro D c pre W hD hS ⟨rfl, p0, x, zs', u, rfl, hx, hI⟩ hDW
    subst hT
    have hp : cutL i2 j p0 = ((ex (zs.map Bz.b)).take j.toNat).drop i.toNat := by rw [← HI.out.2.2.1]; exact cutl_of i2 j HI.out.1 HLB.out (cutl_stop i2 j hS hx)
    have hlen : p0.length ≤ zs.length := by
      have h1 := hS.length_le
      have h2 := tl_len zs
      rw [List.length_map, List.length_append] at h1
      omega
    have c3 := hI.k.c.cell 0
    obtain ⟨ua, uc, rfl⟩ := hI.k.own.shape
    have HE := Lib.hid (show Zown w.heap.size W (.slice ua zs'.length uc) zs' ∧ Rep (zs'.map Bz.b) (((ex (zs.map Bz.b)).take j.toNat).drop i.toNat) ∧ zs'.length ≤ zs.length ∧ Below w.heap.size w W from ⟨hI.k.own.mono (by have := HLT.out; omega), by rw [← hp]; exact hI.k.rep, Nat.le_trans hI.k.ln hlen, hI.k.bel⟩)
    have HDW := Lib.hid hDW
    have HD := Lib.hid (show w.heap.size ≤ D by have := HLT.out; omega)
    clear hI hDW hD hS hp hlen
    gi_wp2
    go_wp2
    have hG := grownBy_putObj' W D (.deferred none)
    have h1 := HE.out.1.grown hG (fun r e => by cases e; exact ⟨_, HDW.out, rfl⟩)
    have h2 := HE.out.2.2.2.trans (⟨hG.os, hG.tape, hG.output, hG.size, fun k hk => hG.block k (by have := HE.out.2.2.2.size; omega) (fun e => by injection e with e; have := HD.out; omega)⟩ : Below w.heap.size W (W.putObj D (.deferred none)))
    refine ⟨by simp, .inl ⟨_, _, rfl, run_takeDeferred HDW.out, ?_⟩⟩
    refine ⟨.slice ua zs'.length uc, ?_, ua, uc, zs', rfl, h1, HE.out.2.1, HE.out.2.2.1, h2⟩
    simp [results, Try.f15, go_sem]
  case done =>
    rintro D ys W hD hS ⟨zs', u, hI⟩ hDW
    subst hT
    have hp : cutL i2 j ys = ((ex (zs.map Bz.b)).take j.toNat).drop i.toNat := by rw [← HI.out.2.2.1]; exact cutl_of i2 j HI.out.1 HLB.out (congrArg _ hS)
    have hlen := ix_len hS
    have c3 := hI.k.c.cell 0
    obtain ⟨ua, uc, rfl⟩ := hI.k.own.shape
    have HE := Lib.hid (show Zown w.heap.size W (.slice ua zs'.length uc) zs' ∧ Rep (zs'.map Bz.b) (((ex (zs.map Bz.b)).take j.toNat).drop i.toNat) ∧ zs'.length ≤ zs.length ∧ Below w.heap.size w W from ⟨hI.k.own.mono (by have := HLT.out; omega), by rw [← hp]; exact hI.k.rep, Nat.le_trans hI.k.ln hlen, hI.k.bel⟩)
    have HDW := Lib.hid hDW
    have HD := Lib.hid (show w.heap.size ≤ D by have := HLT.out; omega)
    clear hI hDW hD hS hp hlen
    gi_wp2
    go_wp2
    have hG := grownBy_putObj' W D (.deferred none)
    have h1 := HE.out.1.grown hG (fun r e => by cases e; exact ⟨_, HDW.out, rfl⟩)
    have h2 := HE.out.2.2.2.trans (⟨hG.os, hG.tape, hG.output, hG.size, fun k hk => hG.block k (by have := HE.out.2.2.2.size; omega) (fun e => by injection e with e; have := HD.out; omega)⟩ : Below w.heap.size W (W.putObj D (.deferred none)))
    refine ⟨by simp, .inl ⟨_, _, rfl, run_takeDeferred HDW.out, ?_⟩⟩
    refine ⟨.slice ua zs'.length uc, ?_, ua, uc, zs', rfl, h1, HE.out.2.1, HE.out.2.2.1, h2⟩
    simp [results, Try.f15, go_sem]
end Go.Proofs.Ytclbjfeneegicaa
