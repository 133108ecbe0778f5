
import Derived.Test.YtnggnfhaokkcmaaN8
import Derived.Maps.RangeWalk
/- N9: the reference's Copy -/
namespace Go.Proofs.Ytnggnfhaokkcmaa
open Go.RowKit
set_option linter.unusedVariables false
set_option maxRecDepth 100000

/-- append(out, src...) as one operation: out the call's own, src whatever slice, nil too. -/
theorem wp_append_rowC {α : Type} {C : Cel α} {P : Program} {w : World} {o : Oper} {a : Act} {K : Act → World → Prop} {Q : Exit → Act → World → Prop} (s x : Operand) (t : TypeId)
    (ho : o.op = .call { callee := .builtin .append, args := #[s, x], argTypes := #[t, t] })
    (base : Nat) (e : TypeId) (i : TypeInfo) (z : Value) (bytes : Nat) (ht : P.underlying t = some (.slice e)) (hi : P.info? e = some i) (hz : i.zero = some z)
    (hsize : i.size = C.m) (hby : i.bytes = bytes) (hzs : z.cells.size = C.m)
    (v : Value) (n : Nat) (cs : List Value) (hs : a.eval s = v) (hown : w.ownsRow base e C.m v n cs)
    (u : Value) (ys : List α) (hx : a.eval x = u) (hu : Row C w u ys)
    (h63 : n + ys.length ≤ maxLen) (hbytes : (n + ys.length) * bytes ≤ 140737488355328) (hbase : base ≤ w.heap.size)
    (h : ∀ v' w', w'.ownsRow base e C.m v' (n + ys.length) (cs ++ fl C ys) → w.grownBy w' v.ownBlock → K (a.put o.dst v') w') : o.wp P a w K Q := by
  rcases hu with ⟨ad, cap, rfl, rfl, hm, hc0⟩ | ⟨b, off, cap, rfl, h0, h1, hm, hc⟩
  · cases ad with
    | none =>
      obtain rfl := hc0 rfl
      have hrun := run_append_owned_none (P := P) (w := w) base t o.type e i C.m ht hi v n cs hown
      unfold Oper.wp
      simp [execOp, ho, resolve, invoke, builtin, hs, hx, hrun, Result.andThen]
      exact h v w (by simpa [fl_nil] using hown) (grown_refl _ _)
    | some ad =>
      exact wp_append_own w s x t ho base e i z C.m bytes ht hi hz hsize hby hzs C.pos v n cs hs hown ad 0 cap [] hx (by simp) (by intro j u hj; simp at hj) (by intro u hu; cases hu) h63 hbytes hbase (fun v' w' q1 q2 _ => h v' w' (by simpa [fl_nil] using q1) q2)
  · refine wp_append_own w s x t ho base e i z C.m bytes ht hi hz hsize hby hzs C.pos v n cs hs hown ⟨b, off, none⟩ ys.length cap (fl C ys) hx (fl_len C ys) ?_ (fl_ones C ys) h63 hbytes hbase (fun v' w' q1 q2 _ => h v' w' q1 q2)
    intro j u hj
    rw [Go.WideShapes.add_plain]
    exact hc j u hj
/-- T{} as one operation. -/
theorem wp_empty {P : Program} {o : Oper} {a : Act} {w : World} {K : Act → World → Prop} {Q : Exit → Act → World → Prop} (t e : TypeId) (m : Nat) (ho : o.op = .buildSlice t 0 #[]) (hu : P.underlying t = some (.slice e)) (ie : TypeInfo) (hie : P.info? e = some ie)
    (h : ∀ q W', W'.ownsRow w.heap.size e m (.slice (some ⟨q, 0, none⟩) 0 0) 0 [] → Below w.heap.size w W' → K (a.put o.dst (.slice (some ⟨q, 0, none⟩) 0 0)) W') : o.wp P a w K Q := by
  have hrun : (execOp a.eval o).run P w = .ok (.value (.slice (some ⟨w.heap.size, 0, none⟩) 0 0)) (w.alloc (.cells #[] e)) := by
    have e0 : Array.range 0 = #[] := by simp [Array.range]
    simp [execOp, ho, Instr.buildSlice, run_underlying hu, sizeOf, typeInfo, hie, newRow, Instr.fill, e0]
  unfold Oper.wp
  rw [hrun]
  exact h _ _ (owns_none w e m) (kbelow_one w _)
theorem wp_do {P : Program} {op : Oper} {a : Act} {w w' : World} {v : Value} {K : Act → World → Prop} {Q : Exit → Act → World → Prop} (hv : (execOp a.eval op).run P w = .ok (.value v) w') (h : K (a.put op.dst v) w') : op.wp P a w K Q := by
  unfold Oper.wp
  rw [hv]
  exact h
theorem Ints.rowC {w : World} {v : Value} {xs : List Int} (h : Ints .i32 w v xs) : Row intC w v xs := by
  rcases h with h | ⟨b, off, cap, hv, h0, h1, h2, h3⟩
  · exact .inl h
  · refine .inr ⟨b, off, cap, hv, h0, h1, h2, fun j u hu => ?_⟩
    rw [fl_intC] at hu
    have hj : j < xs.length := by have := (List.getElem?_eq_some_iff.1 hu).1; simpa using this
    rw [h3 j hj, ← hu]
    simp [List.getD, hj]
theorem own_far2 {w w' : World} {B B' : Nat} {e e' : TypeId} {s s' n n' : Nat} {u u' : Value} {xs ys : List Value} (h : w.ownsRow B e s u n xs) (h' : w.ownsRow B' e' s' u' n' ys) (hne : e ≠ e') (hg : w.grownBy w' u'.ownBlock) : w'.ownsRow B e s u n xs :=
  owns_kept h fun g hgb => hg.block g (own_lt7 h hgb) (fun e => tag_ne h h' hne hgb e.symm)
/-- What stays while an op is copied. -/
structure CK (wr : World) (z : Oz) (W : World) : Prop where
  c : OAt wr.heap.size 0 z W
  b : Below wr.heap.size wr W
  hi : wr.heap.size < W.heap.size
theorem CK.below {wr W W' : World} {z : Oz} (h : CK wr z W) (hb : Below W.heap.size W W') : CK wr z W' := ⟨h.c.below hb, below_add h.b hb h.b.size, Nat.lt_of_lt_of_le h.hi hb.size⟩
theorem CK.grown {wr W W' : World} {z : Oz} {B n m : Nat} {e : TypeId} {v : Value} {xs : List Value} (h : CK wr z W) (ho : W.ownsRow B e m v n xs) (hB : wr.heap.size < B) (hg : W.grownBy W' v.ownBlock) : CK wr z W' := by
  have hv : ∀ g, v.ownBlock = some g → wr.heap.size < g := fun g hgb => by have := own_base ho hgb; omega
  exact ⟨h.c.off (Off.of_grown (S := fun k => v.ownBlock = some k) hg (fun g hg => hg)) (fun hh => by have := hv _ hh; omega), h.b.grown hg h.b.size (fun g hgb => by have := hv g hgb; omega), Nat.lt_of_lt_of_le h.hi hg.size⟩
theorem CK.start (wr : World) (z : Oz) : CK wr z (wr.alloc (.cells z.cs 34)).drew := ⟨(OAt.new wr z _).below (Below.refl _ _).drew, (kbelow_one wr _).drew, by simp⟩

/-- The row's growth leaves the op's own variable as it was. -/
theorem kept_box {B : Nat} {w wr W w' : World} {zs ys : List Oz} {k : Nat} {v : Value} {z : Oz} (h : CpR B w zs k v wr ys) (hk : CK wr z W) (hg : W.grownBy w' v.ownBlock) : OAt wr.heap.size 0 z w' :=
  hk.c.off (Off.of_grown (S := fun j => v.ownBlock = some j) hg (fun g hg => hg)) (fun hh => by have := own_lt7 h.own.row hh; omega)

set_option maxHeartbeats 16000000 in
theorem rocopy_any (u : Value) (zs : List Oz) (w : World) (hu : Orow w u zs) (hl : zs.length ≤ 16777216) (hz : ∀ z ∈ zs, Sm z) :
    Calls Try.prog 11 #[u] w fun e w' => ∃ v ys, e = .returned v ∧ ys.map Oz.o = zs.map Oz.o ∧ Oown (fun g => w.heap.size ≤ g) w' v ys ∧ Below w.heap.size w w' := by
  obtain ⟨i0, hi, hz0, hz1, hz2⟩ := info_op
  obtain ⟨j1, hj1, hj10, hj11, hj12⟩ := info_i32
  obtain ⟨j2, hj2, hj20, hj21, hj22⟩ := info_at
  obtain ⟨j3, hj3, hj30, hj31, hj32⟩ := info_ch
  have HU := Lib.hid hu
  obtain ⟨a1, cap1, rfl⟩ := hu.shape
  have HS := Lib.hid (show CpR w.heap.size w zs 0 (.slice none 0 0) w [] from ⟨Oown.nil _ _, rfl, Below.refl _ _, Nat.le_refl _⟩)
  go_enter Try.func11, Try.ntmps11
  go_wp2
  go_loopw [3, 4] (fun s3 s4 wr => ∃ (k : Nat) (a : Option Addr) (c : Nat) (ys : List Oz), k ≤ zs.length ∧ ys.length = k ∧ s3 = .slice a k c ∧ s4 = .int .i64 k ∧ Hid (CpR w.heap.size w zs k (.slice a k c) wr ys)) (fun _ s4 _ => zs.length - (intOf s4).toNat)
  case atStart => exact ⟨0, _, _, [], Nat.zero_le _, rfl, rfl, rfl, HS⟩
  case round =>
    clear HS
    obtain ⟨k, va, vc, ys, hk, hyl, rfl, rfl, HR⟩ := hrel
    by_cases hlt : k < zs.length
    · have hlt1 : 0 < zs.length := by omega
      obtain ⟨b1, o1, rfl, -, -, -, -, hat⟩ := HU.out.row.ats hlt1
      have hoat := (hat k hlt).below HR.out.bel
      have hok := (HU.out.ok _ (List.getElem_mem hlt)).below HR.out.bel
      have hsm := hz _ (List.getElem_mem hlt)
      have HEQ := Lib.hid (show ∀ y : Oz, y.o = zs[k].o → (ys ++ [y]).map Oz.o = (zs.take (k + 1)).map Oz.o from fun y he => by rw [tsnoc hlt, List.map_append, List.map_append, HR.out.eq, List.map_singleton, List.map_singleton, he])
      clear hat hu
      generalize zs[k] = z at *
      have HLT := Lib.hid hlt
      have hwb : w.heap.size ≤ wr.heap.size := HR.out.hi
      have HOK := Lib.hid (fun W (hb : Below wr.heap.size wr W) => hok.below hb)
      have K0 := Lib.hid (CK.start wr z)
      have hs1 := hsm.r
      have hs2 := hsm.s
      have hs3 := hsm.p
      have HYL := Lib.hid hyl
      have HWB := Lib.hid hwb
      have HROW := Lib.hid (fun W (hb : Below wr.heap.size wr W) => (show W.ownsRow 0 34 5 (.slice va k vc) k (fl ozC ys) from by have := (HR.out.own.below hb).row; rwa [hyl] at this))
      obtain ⟨zk, zn, zra, zrc, zrs, zsa, zsc, zst, zpa, zpc, zpt⟩ := z
      obtain ⟨c0, c1, c2, c3, c4⟩ := hoat
      simp only at hs1 hs2 hs3 c0 c1 c2 c3 c4
      have HS1 := Lib.hid hs1
      have HS2 := Lib.hid hs2
      have HS3 := Lib.hid hs3
      clear hok hsm hyl hwb hz hlt1 hs1 hs2 hs3
      go_upto_region 6 with fail

      refine h_start (S := (fun W => OAt wr.heap.size 0 ⟨zk, zn, zra, zrc, zrs, zsa, zsc, zst, zpa, zpc, zpt⟩ W)) (by kernel_rfl) ?_
      refine h_val (i := 0) (v := .slice va k vc) rfl (by kernel_rfl) (by kernel_rfl) (by kernel_rfl) (fun _ _ _ h => h) (by rfl) (fun wz hS => ?_) K0.out.c ?_
      · skip
        go_simp
      go_frame
      refine h_val (i := 1) (v := .pointer (some ⟨wr.heap.size, 0, none⟩)) rfl (by kernel_rfl) (by kernel_rfl) (by kernel_rfl) (fun _ _ _ h => h) (by rfl) (fun wz hS => ?_) K0.out.c ?_
      · skip
        go_simp
      go_frame
      refine h_val (i := 2) (v := .int .u8 zk) rfl (by kernel_rfl) (by kernel_rfl) (by kernel_rfl) (fun _ _ _ h => h) (by rfl) (fun wz hS => ?_) K0.out.c ?_
      · have q0 : wz.cell? ⟨wr.heap.size, 0, none⟩ = some (.int .u8 zk) := hS.1
        go_simp
      go_frame
      refine h_val (i := 3) (v := .pointer (some ⟨wr.heap.size, 1, none⟩)) rfl (by kernel_rfl) (by kernel_rfl) (by kernel_rfl) (fun _ _ _ h => h) (by rfl) (fun wz hS => ?_) K0.out.c ?_
      · skip
        go_simp
      go_frame
      refine h_val (i := 4) (v := .int .i64 zn) rfl (by kernel_rfl) (by kernel_rfl) (by kernel_rfl) (fun _ _ _ h => h) (by rfl) (fun wz hS => ?_) K0.out.c ?_
      · have q0 : wz.cell? ⟨wr.heap.size, 1, none⟩ = some (.int .i64 zn) := hS.2.1
        go_simp
      go_frame
      refine h_val (i := 6) (v := .pointer (some ⟨wr.heap.size, 2, none⟩)) rfl (by kernel_rfl) (by kernel_rfl) (by kernel_rfl) (fun _ _ _ h => h) (by rfl) (fun wz hS => ?_) K0.out.c ?_
      · skip
        go_simp
      go_frame
      refine h_val (i := 7) (v := .slice zra zrs.length zrc) rfl (by kernel_rfl) (by kernel_rfl) (by kernel_rfl) (fun _ _ _ h => h) (by rfl) (fun wz hS => ?_) K0.out.c ?_
      · have q0 : wz.cell? ⟨wr.heap.size, 2, none⟩ = some (.slice zra zrs.length zrc) := hS.2.2.1
        go_simp
      go_frame
      refine h_val (i := 10) (v := .pointer (some ⟨wr.heap.size, 3, none⟩)) rfl (by kernel_rfl) (by kernel_rfl) (by kernel_rfl) (fun _ _ _ h => h) (by rfl) (fun wz hS => ?_) K0.out.c ?_
      · skip
        go_simp
      go_frame
      refine h_val (i := 11) (v := .slice zsa zst.length zsc) rfl (by kernel_rfl) (by kernel_rfl) (by kernel_rfl) (fun _ _ _ h => h) (by rfl) (fun wz hS => ?_) K0.out.c ?_
      · have q0 : wz.cell? ⟨wr.heap.size, 3, none⟩ = some (.slice zsa zst.length zsc) := hS.2.2.2.1
        go_simp
      go_frame
      refine h_val (i := 14) (v := .pointer (some ⟨wr.heap.size, 4, none⟩)) rfl (by kernel_rfl) (by kernel_rfl) (by kernel_rfl) (fun _ _ _ h => h) (by rfl) (fun wz hS => ?_) K0.out.c ?_
      · skip
        go_simp
      go_frame
      refine h_val (i := 15) (v := .slice zpa zpt.length zpc) rfl (by kernel_rfl) (by kernel_rfl) (by kernel_rfl) (fun _ _ _ h => h) (by rfl) (fun wz hS => ?_) K0.out.c ?_
      · have q0 : wz.cell? ⟨wr.heap.size, 4, none⟩ = some (.slice zpa zpt.length zpc) := hS.2.2.2.2
        go_simp
      go_frame
      refine h_all3 (i := 5) (j := 9) (k := 13) (by kernel_rfl) ?_ ?_ ?_
      · skip
        refine o_step rfl (by rfl) ?_
        refine wp_empty 30 21 intC.m rfl Try.underlying30 j1 hj1 (fun q1 W1 o1 b1 => ?_)
        have K1 := Lib.hid (K0.out.below b1)
        have O1 := Lib.hid (owns_mono (B' := wr.heap.size + 1) o1 (by have := K0.out.hi; first | exact this | (simp only [World.size_drew] at *; exact this)))
        clear o1 b1
        refine ⟨K1.out.c, ?_⟩
        go_frame
        refine h_all3 (i := 8) (j := 9) (k := 13) (by kernel_rfl) ?_ ?_ ?_
        · skip
          refine o_step rfl (by rfl) ?_
          refine wp_append_rowC (C := intC) (.tmp 21) (.tmp 23) 30 rfl (wr.heap.size + 1) 21 j1 (.int .i32 0) 4 Try.underlying30 hj1 hj10 hj11 hj12 rfl (.slice (some ⟨q1, 0, none⟩) 0 0) 0 [] rfl O1.out _ zrs rfl (HOK.out _ K1.out.b).r.rowC (by have := HS1.out; unfold maxLen; omega) (by have := HS1.out; omega) (by have := K1.out.hi; omega) (fun v2 W2 o2 g2 => ?_)
          rw [Nat.zero_add, List.nil_append] at o2
          obtain ⟨x2, y2, rfl, -, -⟩ := own_shape o2
          have K2 := Lib.hid (K1.out.grown O1.out (Nat.lt_succ_self _) g2)
          have O2 := Lib.hid o2
          clear o2 g2
          refine ⟨K2.out.c, ?_⟩
          go_frame
          refine h_all2 (i := 9) (j := 13) (by kernel_rfl) ?_ ?_
          · skip
            refine o_step rfl (by rfl) ?_
            refine wp_empty 31 39 attC.m rfl Try.underlying31 j2 hj2 (fun q3 W3 o3 b3 => ?_)
            have K3 := Lib.hid (K2.out.below b3)
            have O3 := Lib.hid (owns_mono (B' := wr.heap.size + 1) o3 (by have := K2.out.hi; first | exact this | (simp only [World.size_drew] at *; exact this)))
            have P3_8 := Lib.hid (owns_below O2.out b3)
            clear o3 b3
            refine ⟨K3.out.c, ?_⟩
            go_frame
            refine h_all2 (i := 12) (j := 13) (by kernel_rfl) ?_ ?_
            · skip
              refine o_step rfl (by rfl) ?_
              refine wp_append_rowC (C := attC) (.tmp 25) (.tmp 27) 31 rfl (wr.heap.size + 1) 39 j2 (av noAtt) 48 Try.underlying31 hj2 hj20 hj21 hj22 rfl (.slice (some ⟨q3, 0, none⟩) 0 0) 0 [] rfl O3.out _ zst rfl (HOK.out _ K3.out.b).s (by have := HS2.out; unfold maxLen; omega) (by have := HS2.out; omega) (by have := K3.out.hi; omega) (fun v4 W4 o4 g4 => ?_)
              rw [Nat.zero_add, List.nil_append] at o4
              obtain ⟨x4, y4, rfl, -, -⟩ := own_shape o4
              have K4 := Lib.hid (K3.out.grown O3.out (Nat.lt_succ_self _) g4)
              have O4 := Lib.hid o4
              have P4_8 := Lib.hid (own_far2 P3_8.out O3.out (by decide) g4)
              clear o4 g4
              refine ⟨K4.out.c, ?_⟩
              go_frame
              refine h_all1 (i := 13) (by kernel_rfl) ?_
              refine o_step rfl (by rfl) ?_
              refine wp_empty 32 41 chC.m rfl Try.underlying32 j3 hj3 (fun q5 W5 o5 b5 => ?_)
              have K5 := Lib.hid (K4.out.below b5)
              have O5 := Lib.hid (owns_mono (B' := wr.heap.size + 1) o5 (by have := K4.out.hi; first | exact this | (simp only [World.size_drew] at *; exact this)))
              have P5_8 := Lib.hid (owns_below P4_8.out b5)
              have P5_12 := Lib.hid (owns_below O4.out b5)
              clear o5 b5
              refine ⟨K5.out.c, ?_⟩
              go_frame
              refine h_all1 (i := 16) (by kernel_rfl) ?_
              refine o_step rfl (by rfl) ?_
              refine wp_append_rowC (C := chC) (.tmp 29) (.tmp 31) 32 rfl (wr.heap.size + 1) 41 j3 (cv noChg) 56 Try.underlying32 hj3 hj30 hj31 hj32 rfl (.slice (some ⟨q5, 0, none⟩) 0 0) 0 [] rfl O5.out _ zpt rfl (HOK.out _ K5.out.b).p (by have := HS3.out; unfold maxLen; omega) (by have := HS3.out; omega) (by have := K5.out.hi; omega) (fun v6 W6 o6 g6 => ?_)
              rw [Nat.zero_add, List.nil_append] at o6
              obtain ⟨x6, y6, rfl, -, -⟩ := own_shape o6
              have K6 := Lib.hid (K5.out.grown O5.out (Nat.lt_succ_self _) g6)
              have O6 := Lib.hid o6
              have P6_8 := Lib.hid (own_far2 P5_8.out O5.out (by decide) g6)
              have P6_12 := Lib.hid (own_far2 P5_12.out O5.out (by decide) g6)
              clear o6 g6
              refine ⟨K6.out.c, ?_⟩
              go_frame
              refine h_val (i := 17) (v := .agg (opcs zk zn x2 zrs.length y2 x4 zst.length y4 x6 zpt.length y6)) rfl (by kernel_rfl) (by kernel_rfl) (by kernel_rfl) (fun _ _ _ h => h) (by rfl) (fun wz hS => ?_) K6.out.c ?_
              · skip
                go_simp
              go_frame
              refine h_all1 (i := 18) (by kernel_rfl) ?_
              refine o_step rfl (by rfl) ?_
              refine wp_do (v := .slice (some ⟨W6.heap.size, 0, none⟩) 1 1) (w' := W6.alloc (.cells (opcs zk zn x2 zrs.length y2 x4 zst.length y4 x6 zpt.length y6) 34)) (by go_simp) ?_
              have KB := Lib.hid (K6.out.below (kbelow_one W6 (.cells (opcs zk zn x2 zrs.length y2 x4 zst.length y4 x6 zpt.length y6) 34)))
              have HOW := Lib.hid (HROW.out _ KB.out.b)
              have HZO := Lib.hid (op_new (k := zk) (n := zn) (rs := zrs) (show World.ownsRow W6 _ 21 1 _ _ _ from by have := P6_8.out; rwa [fl_intC] at this) P6_12.out O6.out HWB.out (kbelow_one W6 (.cells (opcs zk zn x2 zrs.length y2 x4 zst.length y4 x6 zpt.length y6) 34)) (Nat.le_succ _) (Nat.le_succ _) (Nat.le_succ _))
              have HZN := Lib.hid (fun g (hg : (Value.slice x2 zrs.length y2).ownBlock = some g) => (Nat.le_of_succ_le (own_base P6_8.out hg) : wr.heap.size ≤ g))
              refine ⟨KB.out.c, ?_⟩
              go_frame
              refine h_all1 (i := 19) (by kernel_rfl) ?_
              refine o_step rfl (by rfl) ?_
              refine wp_append_lies _ (.tmp 16) (.tmp 34) 23 rfl 0 34 i0 _ 5 88 Try.underlying23 hi hz0 hz1 hz2 rfl (by decide) (.slice va k vc) k (fl ozC ys) rfl HOW.out ⟨W6.heap.size, 0, none⟩ 1 1 (ozC.c ⟨zk, zn, x2, y2, zrs, x4, y4, zst, x6, y6, zpt⟩) rfl rfl (World.news_of_block (heap_alloc_new _ _)) (ozC.one _) (by decide) (by unfold maxLen; omega) (by omega) (Nat.zero_le _) _ rfl ?_
              intro g cap w4 hown4 hgrow4 hat4 hlt4
              have NX := Lib.hid (HR.out.next rfl KB.out.b HZO.out HZN.out hgrow4 hown4 hat4 HYL.out (HEQ.out _ rfl))
              refine ⟨kept_box HR.out KB.out hgrow4, ?_⟩
              go_frame
              refine h_val (i := 20) (v := .slice (some ⟨g, 0, none⟩) (k + 1) cap) rfl (by kernel_rfl) (by kernel_rfl) (by kernel_rfl) (fun _ _ _ h => h) (by rfl) (fun wz hS => ?_) (kept_box HR.out KB.out hgrow4) ?_
              · skip
                go_simp
              go_frame
              refine h_done (by kernel_rfl) ?_
              go_wp2
              go_roundw
              case rel => exact ⟨k + 1, _, _, _, HLT.out, by rw [List.length_append, HYL.out]; rfl, rfl, by go_num, NX⟩
              case measure => have := HLT.out; simp [intOf]; omega
            · skip
              refine o_step rfl (by rfl) ?_
              refine wp_empty 32 41 chC.m rfl Try.underlying32 j3 hj3 (fun q7 W7 o7 b7 => ?_)
              have K7 := Lib.hid (K3.out.below b7)
              have O7 := Lib.hid (owns_mono (B' := wr.heap.size + 1) o7 (by have := K3.out.hi; first | exact this | (simp only [World.size_drew] at *; exact this)))
              have P7_8 := Lib.hid (owns_below P3_8.out b7)
              have P7_9 := Lib.hid (owns_below O3.out b7)
              clear o7 b7
              refine ⟨K7.out.c, ?_⟩
              go_frame
              refine h_all1 (i := 12) (by kernel_rfl) ?_
              refine o_step rfl (by rfl) ?_
              refine wp_append_rowC (C := attC) (.tmp 25) (.tmp 27) 31 rfl (wr.heap.size + 1) 39 j2 (av noAtt) 48 Try.underlying31 hj2 hj20 hj21 hj22 rfl (.slice (some ⟨q3, 0, none⟩) 0 0) 0 [] rfl P7_9.out _ zst rfl (HOK.out _ K7.out.b).s (by have := HS2.out; unfold maxLen; omega) (by have := HS2.out; omega) (by have := K7.out.hi; omega) (fun v8 W8 o8 g8 => ?_)
              rw [Nat.zero_add, List.nil_append] at o8
              obtain ⟨x8, y8, rfl, -, -⟩ := own_shape o8
              have K8 := Lib.hid (K7.out.grown P7_9.out (Nat.lt_succ_self _) g8)
              have O8 := Lib.hid o8
              have P8_8 := Lib.hid (own_far2 P7_8.out P7_9.out (by decide) g8)
              have P8_13 := Lib.hid (own_far2 O7.out P7_9.out (by decide) g8)
              clear o8 g8
              refine ⟨K8.out.c, ?_⟩
              go_frame
              refine h_all1 (i := 16) (by kernel_rfl) ?_
              refine o_step rfl (by rfl) ?_
              refine wp_append_rowC (C := chC) (.tmp 29) (.tmp 31) 32 rfl (wr.heap.size + 1) 41 j3 (cv noChg) 56 Try.underlying32 hj3 hj30 hj31 hj32 rfl (.slice (some ⟨q7, 0, none⟩) 0 0) 0 [] rfl P8_13.out _ zpt rfl (HOK.out _ K8.out.b).p (by have := HS3.out; unfold maxLen; omega) (by have := HS3.out; omega) (by have := K8.out.hi; omega) (fun v9 W9 o9 g9 => ?_)
              rw [Nat.zero_add, List.nil_append] at o9
              obtain ⟨x9, y9, rfl, -, -⟩ := own_shape o9
              have K9 := Lib.hid (K8.out.grown P8_13.out (Nat.lt_succ_self _) g9)
              have O9 := Lib.hid o9
              have P9_8 := Lib.hid (own_far2 P8_8.out P8_13.out (by decide) g9)
              have P9_12 := Lib.hid (own_far2 O8.out P8_13.out (by decide) g9)
              clear o9 g9
              refine ⟨K9.out.c, ?_⟩
              go_frame
              refine h_val (i := 17) (v := .agg (opcs zk zn x2 zrs.length y2 x8 zst.length y8 x9 zpt.length y9)) rfl (by kernel_rfl) (by kernel_rfl) (by kernel_rfl) (fun _ _ _ h => h) (by rfl) (fun wz hS => ?_) K9.out.c ?_
              · skip
                go_simp
              go_frame
              refine h_all1 (i := 18) (by kernel_rfl) ?_
              refine o_step rfl (by rfl) ?_
              refine wp_do (v := .slice (some ⟨W9.heap.size, 0, none⟩) 1 1) (w' := W9.alloc (.cells (opcs zk zn x2 zrs.length y2 x8 zst.length y8 x9 zpt.length y9) 34)) (by go_simp) ?_
              have KB := Lib.hid (K9.out.below (kbelow_one W9 (.cells (opcs zk zn x2 zrs.length y2 x8 zst.length y8 x9 zpt.length y9) 34)))
              have HOW := Lib.hid (HROW.out _ KB.out.b)
              have HZO := Lib.hid (op_new (k := zk) (n := zn) (rs := zrs) (show World.ownsRow W9 _ 21 1 _ _ _ from by have := P9_8.out; rwa [fl_intC] at this) P9_12.out O9.out HWB.out (kbelow_one W9 (.cells (opcs zk zn x2 zrs.length y2 x8 zst.length y8 x9 zpt.length y9) 34)) (Nat.le_succ _) (Nat.le_succ _) (Nat.le_succ _))
              have HZN := Lib.hid (fun g (hg : (Value.slice x2 zrs.length y2).ownBlock = some g) => (Nat.le_of_succ_le (own_base P9_8.out hg) : wr.heap.size ≤ g))
              refine ⟨KB.out.c, ?_⟩
              go_frame
              refine h_all1 (i := 19) (by kernel_rfl) ?_
              refine o_step rfl (by rfl) ?_
              refine wp_append_lies _ (.tmp 16) (.tmp 34) 23 rfl 0 34 i0 _ 5 88 Try.underlying23 hi hz0 hz1 hz2 rfl (by decide) (.slice va k vc) k (fl ozC ys) rfl HOW.out ⟨W9.heap.size, 0, none⟩ 1 1 (ozC.c ⟨zk, zn, x2, y2, zrs, x8, y8, zst, x9, y9, zpt⟩) rfl rfl (World.news_of_block (heap_alloc_new _ _)) (ozC.one _) (by decide) (by unfold maxLen; omega) (by omega) (Nat.zero_le _) _ rfl ?_
              intro g cap w4 hown4 hgrow4 hat4 hlt4
              have NX := Lib.hid (HR.out.next rfl KB.out.b HZO.out HZN.out hgrow4 hown4 hat4 HYL.out (HEQ.out _ rfl))
              refine ⟨kept_box HR.out KB.out hgrow4, ?_⟩
              go_frame
              refine h_val (i := 20) (v := .slice (some ⟨g, 0, none⟩) (k + 1) cap) rfl (by kernel_rfl) (by kernel_rfl) (by kernel_rfl) (fun _ _ _ h => h) (by rfl) (fun wz hS => ?_) (kept_box HR.out KB.out hgrow4) ?_
              · skip
                go_simp
              go_frame
              refine h_done (by kernel_rfl) ?_
              go_wp2
              go_roundw
              case rel => exact ⟨k + 1, _, _, _, HLT.out, by rw [List.length_append, HYL.out]; rfl, rfl, by go_num, NX⟩
              case measure => have := HLT.out; simp [intOf]; omega
          · skip
            refine o_step rfl (by rfl) ?_
            refine wp_empty 32 41 chC.m rfl Try.underlying32 j3 hj3 (fun q10 W10 o10 b10 => ?_)
            have K10 := Lib.hid (K2.out.below b10)
            have O10 := Lib.hid (owns_mono (B' := wr.heap.size + 1) o10 (by have := K2.out.hi; first | exact this | (simp only [World.size_drew] at *; exact this)))
            have P10_8 := Lib.hid (owns_below O2.out b10)
            clear o10 b10
            refine ⟨K10.out.c, ?_⟩
            go_frame
            refine h_all1 (i := 9) (by kernel_rfl) ?_
            refine o_step rfl (by rfl) ?_
            refine wp_empty 31 39 attC.m rfl Try.underlying31 j2 hj2 (fun q11 W11 o11 b11 => ?_)
            have K11 := Lib.hid (K10.out.below b11)
            have O11 := Lib.hid (owns_mono (B' := wr.heap.size + 1) o11 (by have := K10.out.hi; first | exact this | (simp only [World.size_drew] at *; exact this)))
            have P11_8 := Lib.hid (owns_below P10_8.out b11)
            have P11_13 := Lib.hid (owns_below O10.out b11)
            clear o11 b11
            refine ⟨K11.out.c, ?_⟩
            go_frame
            refine h_all1 (i := 12) (by kernel_rfl) ?_
            refine o_step rfl (by rfl) ?_
            refine wp_append_rowC (C := attC) (.tmp 25) (.tmp 27) 31 rfl (wr.heap.size + 1) 39 j2 (av noAtt) 48 Try.underlying31 hj2 hj20 hj21 hj22 rfl (.slice (some ⟨q11, 0, none⟩) 0 0) 0 [] rfl O11.out _ zst rfl (HOK.out _ K11.out.b).s (by have := HS2.out; unfold maxLen; omega) (by have := HS2.out; omega) (by have := K11.out.hi; omega) (fun v12 W12 o12 g12 => ?_)
            rw [Nat.zero_add, List.nil_append] at o12
            obtain ⟨x12, y12, rfl, -, -⟩ := own_shape o12
            have K12 := Lib.hid (K11.out.grown O11.out (Nat.lt_succ_self _) g12)
            have O12 := Lib.hid o12
            have P12_8 := Lib.hid (own_far2 P11_8.out O11.out (by decide) g12)
            have P12_13 := Lib.hid (own_far2 P11_13.out O11.out (by decide) g12)
            clear o12 g12
            refine ⟨K12.out.c, ?_⟩
            go_frame
            refine h_all1 (i := 16) (by kernel_rfl) ?_
            refine o_step rfl (by rfl) ?_
            refine wp_append_rowC (C := chC) (.tmp 29) (.tmp 31) 32 rfl (wr.heap.size + 1) 41 j3 (cv noChg) 56 Try.underlying32 hj3 hj30 hj31 hj32 rfl (.slice (some ⟨q10, 0, none⟩) 0 0) 0 [] rfl P12_13.out _ zpt rfl (HOK.out _ K12.out.b).p (by have := HS3.out; unfold maxLen; omega) (by have := HS3.out; omega) (by have := K12.out.hi; omega) (fun v13 W13 o13 g13 => ?_)
            rw [Nat.zero_add, List.nil_append] at o13
            obtain ⟨x13, y13, rfl, -, -⟩ := own_shape o13
            have K13 := Lib.hid (K12.out.grown P12_13.out (Nat.lt_succ_self _) g13)
            have O13 := Lib.hid o13
            have P13_8 := Lib.hid (own_far2 P12_8.out P12_13.out (by decide) g13)
            have P13_12 := Lib.hid (own_far2 O12.out P12_13.out (by decide) g13)
            clear o13 g13
            refine ⟨K13.out.c, ?_⟩
            go_frame
            refine h_val (i := 17) (v := .agg (opcs zk zn x2 zrs.length y2 x12 zst.length y12 x13 zpt.length y13)) rfl (by kernel_rfl) (by kernel_rfl) (by kernel_rfl) (fun _ _ _ h => h) (by rfl) (fun wz hS => ?_) K13.out.c ?_
            · skip
              go_simp
            go_frame
            refine h_all1 (i := 18) (by kernel_rfl) ?_
            refine o_step rfl (by rfl) ?_
            refine wp_do (v := .slice (some ⟨W13.heap.size, 0, none⟩) 1 1) (w' := W13.alloc (.cells (opcs zk zn x2 zrs.length y2 x12 zst.length y12 x13 zpt.length y13) 34)) (by go_simp) ?_
            have KB := Lib.hid (K13.out.below (kbelow_one W13 (.cells (opcs zk zn x2 zrs.length y2 x12 zst.length y12 x13 zpt.length y13) 34)))
            have HOW := Lib.hid (HROW.out _ KB.out.b)
            have HZO := Lib.hid (op_new (k := zk) (n := zn) (rs := zrs) (show World.ownsRow W13 _ 21 1 _ _ _ from by have := P13_8.out; rwa [fl_intC] at this) P13_12.out O13.out HWB.out (kbelow_one W13 (.cells (opcs zk zn x2 zrs.length y2 x12 zst.length y12 x13 zpt.length y13) 34)) (Nat.le_succ _) (Nat.le_succ _) (Nat.le_succ _))
            have HZN := Lib.hid (fun g (hg : (Value.slice x2 zrs.length y2).ownBlock = some g) => (Nat.le_of_succ_le (own_base P13_8.out hg) : wr.heap.size ≤ g))
            refine ⟨KB.out.c, ?_⟩
            go_frame
            refine h_all1 (i := 19) (by kernel_rfl) ?_
            refine o_step rfl (by rfl) ?_
            refine wp_append_lies _ (.tmp 16) (.tmp 34) 23 rfl 0 34 i0 _ 5 88 Try.underlying23 hi hz0 hz1 hz2 rfl (by decide) (.slice va k vc) k (fl ozC ys) rfl HOW.out ⟨W13.heap.size, 0, none⟩ 1 1 (ozC.c ⟨zk, zn, x2, y2, zrs, x12, y12, zst, x13, y13, zpt⟩) rfl rfl (World.news_of_block (heap_alloc_new _ _)) (ozC.one _) (by decide) (by unfold maxLen; omega) (by omega) (Nat.zero_le _) _ rfl ?_
            intro g cap w4 hown4 hgrow4 hat4 hlt4
            have NX := Lib.hid (HR.out.next rfl KB.out.b HZO.out HZN.out hgrow4 hown4 hat4 HYL.out (HEQ.out _ rfl))
            refine ⟨kept_box HR.out KB.out hgrow4, ?_⟩
            go_frame
            refine h_val (i := 20) (v := .slice (some ⟨g, 0, none⟩) (k + 1) cap) rfl (by kernel_rfl) (by kernel_rfl) (by kernel_rfl) (fun _ _ _ h => h) (by rfl) (fun wz hS => ?_) (kept_box HR.out KB.out hgrow4) ?_
            · skip
              go_simp
            go_frame
            refine h_done (by kernel_rfl) ?_
            go_wp2
            go_roundw
            case rel => exact ⟨k + 1, _, _, _, HLT.out, by rw [List.length_append, HYL.out]; rfl, rfl, by go_num, NX⟩
            case measure => have := HLT.out; simp [intOf]; omega
        · skip
          refine o_step rfl (by rfl) ?_
          refine wp_empty 31 39 attC.m rfl Try.underlying31 j2 hj2 (fun q14 W14 o14 b14 => ?_)
          have K14 := Lib.hid (K1.out.below b14)
          have O14 := Lib.hid (owns_mono (B' := wr.heap.size + 1) o14 (by have := K1.out.hi; first | exact this | (simp only [World.size_drew] at *; exact this)))
          have P14_5 := Lib.hid (owns_below O1.out b14)
          clear o14 b14
          refine ⟨K14.out.c, ?_⟩
          go_frame
          refine h_all2 (i := 8) (j := 13) (by kernel_rfl) ?_ ?_
          · skip
            refine o_step rfl (by rfl) ?_
            refine wp_append_rowC (C := intC) (.tmp 21) (.tmp 23) 30 rfl (wr.heap.size + 1) 21 j1 (.int .i32 0) 4 Try.underlying30 hj1 hj10 hj11 hj12 rfl (.slice (some ⟨q1, 0, none⟩) 0 0) 0 [] rfl P14_5.out _ zrs rfl (HOK.out _ K14.out.b).r.rowC (by have := HS1.out; unfold maxLen; omega) (by have := HS1.out; omega) (by have := K14.out.hi; omega) (fun v15 W15 o15 g15 => ?_)
            rw [Nat.zero_add, List.nil_append] at o15
            obtain ⟨x15, y15, rfl, -, -⟩ := own_shape o15
            have K15 := Lib.hid (K14.out.grown P14_5.out (Nat.lt_succ_self _) g15)
            have O15 := Lib.hid o15
            have P15_9 := Lib.hid (own_far2 O14.out P14_5.out (by decide) g15)
            clear o15 g15
            refine ⟨K15.out.c, ?_⟩
            go_frame
            refine h_all2 (i := 12) (j := 13) (by kernel_rfl) ?_ ?_
            · skip
              refine o_step rfl (by rfl) ?_
              refine wp_append_rowC (C := attC) (.tmp 25) (.tmp 27) 31 rfl (wr.heap.size + 1) 39 j2 (av noAtt) 48 Try.underlying31 hj2 hj20 hj21 hj22 rfl (.slice (some ⟨q14, 0, none⟩) 0 0) 0 [] rfl P15_9.out _ zst rfl (HOK.out _ K15.out.b).s (by have := HS2.out; unfold maxLen; omega) (by have := HS2.out; omega) (by have := K15.out.hi; omega) (fun v16 W16 o16 g16 => ?_)
              rw [Nat.zero_add, List.nil_append] at o16
              obtain ⟨x16, y16, rfl, -, -⟩ := own_shape o16
              have K16 := Lib.hid (K15.out.grown P15_9.out (Nat.lt_succ_self _) g16)
              have O16 := Lib.hid o16
              have P16_8 := Lib.hid (own_far2 O15.out P15_9.out (by decide) g16)
              clear o16 g16
              refine ⟨K16.out.c, ?_⟩
              go_frame
              refine h_all1 (i := 13) (by kernel_rfl) ?_
              refine o_step rfl (by rfl) ?_
              refine wp_empty 32 41 chC.m rfl Try.underlying32 j3 hj3 (fun q17 W17 o17 b17 => ?_)
              have K17 := Lib.hid (K16.out.below b17)
              have O17 := Lib.hid (owns_mono (B' := wr.heap.size + 1) o17 (by have := K16.out.hi; first | exact this | (simp only [World.size_drew] at *; exact this)))
              have P17_8 := Lib.hid (owns_below P16_8.out b17)
              have P17_12 := Lib.hid (owns_below O16.out b17)
              clear o17 b17
              refine ⟨K17.out.c, ?_⟩
              go_frame
              refine h_all1 (i := 16) (by kernel_rfl) ?_
              refine o_step rfl (by rfl) ?_
              refine wp_append_rowC (C := chC) (.tmp 29) (.tmp 31) 32 rfl (wr.heap.size + 1) 41 j3 (cv noChg) 56 Try.underlying32 hj3 hj30 hj31 hj32 rfl (.slice (some ⟨q17, 0, none⟩) 0 0) 0 [] rfl O17.out _ zpt rfl (HOK.out _ K17.out.b).p (by have := HS3.out; unfold maxLen; omega) (by have := HS3.out; omega) (by have := K17.out.hi; omega) (fun v18 W18 o18 g18 => ?_)
              rw [Nat.zero_add, List.nil_append] at o18
              obtain ⟨x18, y18, rfl, -, -⟩ := own_shape o18
              have K18 := Lib.hid (K17.out.grown O17.out (Nat.lt_succ_self _) g18)
              have O18 := Lib.hid o18
              have P18_8 := Lib.hid (own_far2 P17_8.out O17.out (by decide) g18)
              have P18_12 := Lib.hid (own_far2 P17_12.out O17.out (by decide) g18)
              clear o18 g18
              refine ⟨K18.out.c, ?_⟩
              go_frame
              refine h_val (i := 17) (v := .agg (opcs zk zn x15 zrs.length y15 x16 zst.length y16 x18 zpt.length y18)) rfl (by kernel_rfl) (by kernel_rfl) (by kernel_rfl) (fun _ _ _ h => h) (by rfl) (fun wz hS => ?_) K18.out.c ?_
              · skip
                go_simp
              go_frame
              refine h_all1 (i := 18) (by kernel_rfl) ?_
              refine o_step rfl (by rfl) ?_
              refine wp_do (v := .slice (some ⟨W18.heap.size, 0, none⟩) 1 1) (w' := W18.alloc (.cells (opcs zk zn x15 zrs.length y15 x16 zst.length y16 x18 zpt.length y18) 34)) (by go_simp) ?_
              have KB := Lib.hid (K18.out.below (kbelow_one W18 (.cells (opcs zk zn x15 zrs.length y15 x16 zst.length y16 x18 zpt.length y18) 34)))
              have HOW := Lib.hid (HROW.out _ KB.out.b)
              have HZO := Lib.hid (op_new (k := zk) (n := zn) (rs := zrs) (show World.ownsRow W18 _ 21 1 _ _ _ from by have := P18_8.out; rwa [fl_intC] at this) P18_12.out O18.out HWB.out (kbelow_one W18 (.cells (opcs zk zn x15 zrs.length y15 x16 zst.length y16 x18 zpt.length y18) 34)) (Nat.le_succ _) (Nat.le_succ _) (Nat.le_succ _))
              have HZN := Lib.hid (fun g (hg : (Value.slice x15 zrs.length y15).ownBlock = some g) => (Nat.le_of_succ_le (own_base P18_8.out hg) : wr.heap.size ≤ g))
              refine ⟨KB.out.c, ?_⟩
              go_frame
              refine h_all1 (i := 19) (by kernel_rfl) ?_
              refine o_step rfl (by rfl) ?_
              refine wp_append_lies _ (.tmp 16) (.tmp 34) 23 rfl 0 34 i0 _ 5 88 Try.underlying23 hi hz0 hz1 hz2 rfl (by decide) (.slice va k vc) k (fl ozC ys) rfl HOW.out ⟨W18.heap.size, 0, none⟩ 1 1 (ozC.c ⟨zk, zn, x15, y15, zrs, x16, y16, zst, x18, y18, zpt⟩) rfl rfl (World.news_of_block (heap_alloc_new _ _)) (ozC.one _) (by decide) (by unfold maxLen; omega) (by omega) (Nat.zero_le _) _ rfl ?_
              intro g cap w4 hown4 hgrow4 hat4 hlt4
              have NX := Lib.hid (HR.out.next rfl KB.out.b HZO.out HZN.out hgrow4 hown4 hat4 HYL.out (HEQ.out _ rfl))
              refine ⟨kept_box HR.out KB.out hgrow4, ?_⟩
              go_frame
              refine h_val (i := 20) (v := .slice (some ⟨g, 0, none⟩) (k + 1) cap) rfl (by kernel_rfl) (by kernel_rfl) (by kernel_rfl) (fun _ _ _ h => h) (by rfl) (fun wz hS => ?_) (kept_box HR.out KB.out hgrow4) ?_
              · skip
                go_simp
              go_frame
              refine h_done (by kernel_rfl) ?_
              go_wp2
              go_roundw
              case rel => exact ⟨k + 1, _, _, _, HLT.out, by rw [List.length_append, HYL.out]; rfl, rfl, by go_num, NX⟩
              case measure => have := HLT.out; simp [intOf]; omega
            · skip
              refine o_step rfl (by rfl) ?_
              refine wp_empty 32 41 chC.m rfl Try.underlying32 j3 hj3 (fun q19 W19 o19 b19 => ?_)
              have K19 := Lib.hid (K15.out.below b19)
              have O19 := Lib.hid (owns_mono (B' := wr.heap.size + 1) o19 (by have := K15.out.hi; first | exact this | (simp only [World.size_drew] at *; exact this)))
              have P19_9 := Lib.hid (owns_below P15_9.out b19)
              have P19_8 := Lib.hid (owns_below O15.out b19)
              clear o19 b19
              refine ⟨K19.out.c, ?_⟩
              go_frame
              refine h_all1 (i := 12) (by kernel_rfl) ?_
              refine o_step rfl (by rfl) ?_
              refine wp_append_rowC (C := attC) (.tmp 25) (.tmp 27) 31 rfl (wr.heap.size + 1) 39 j2 (av noAtt) 48 Try.underlying31 hj2 hj20 hj21 hj22 rfl (.slice (some ⟨q14, 0, none⟩) 0 0) 0 [] rfl P19_9.out _ zst rfl (HOK.out _ K19.out.b).s (by have := HS2.out; unfold maxLen; omega) (by have := HS2.out; omega) (by have := K19.out.hi; omega) (fun v20 W20 o20 g20 => ?_)
              rw [Nat.zero_add, List.nil_append] at o20
              obtain ⟨x20, y20, rfl, -, -⟩ := own_shape o20
              have K20 := Lib.hid (K19.out.grown P19_9.out (Nat.lt_succ_self _) g20)
              have O20 := Lib.hid o20
              have P20_8 := Lib.hid (own_far2 P19_8.out P19_9.out (by decide) g20)
              have P20_13 := Lib.hid (own_far2 O19.out P19_9.out (by decide) g20)
              clear o20 g20
              refine ⟨K20.out.c, ?_⟩
              go_frame
              refine h_all1 (i := 16) (by kernel_rfl) ?_
              refine o_step rfl (by rfl) ?_
              refine wp_append_rowC (C := chC) (.tmp 29) (.tmp 31) 32 rfl (wr.heap.size + 1) 41 j3 (cv noChg) 56 Try.underlying32 hj3 hj30 hj31 hj32 rfl (.slice (some ⟨q19, 0, none⟩) 0 0) 0 [] rfl P20_13.out _ zpt rfl (HOK.out _ K20.out.b).p (by have := HS3.out; unfold maxLen; omega) (by have := HS3.out; omega) (by have := K20.out.hi; omega) (fun v21 W21 o21 g21 => ?_)
              rw [Nat.zero_add, List.nil_append] at o21
              obtain ⟨x21, y21, rfl, -, -⟩ := own_shape o21
              have K21 := Lib.hid (K20.out.grown P20_13.out (Nat.lt_succ_self _) g21)
              have O21 := Lib.hid o21
              have P21_8 := Lib.hid (own_far2 P20_8.out P20_13.out (by decide) g21)
              have P21_12 := Lib.hid (own_far2 O20.out P20_13.out (by decide) g21)
              clear o21 g21
              refine ⟨K21.out.c, ?_⟩
              go_frame
              refine h_val (i := 17) (v := .agg (opcs zk zn x15 zrs.length y15 x20 zst.length y20 x21 zpt.length y21)) rfl (by kernel_rfl) (by kernel_rfl) (by kernel_rfl) (fun _ _ _ h => h) (by rfl) (fun wz hS => ?_) K21.out.c ?_
              · skip
                go_simp
              go_frame
              refine h_all1 (i := 18) (by kernel_rfl) ?_
              refine o_step rfl (by rfl) ?_
              refine wp_do (v := .slice (some ⟨W21.heap.size, 0, none⟩) 1 1) (w' := W21.alloc (.cells (opcs zk zn x15 zrs.length y15 x20 zst.length y20 x21 zpt.length y21) 34)) (by go_simp) ?_
              have KB := Lib.hid (K21.out.below (kbelow_one W21 (.cells (opcs zk zn x15 zrs.length y15 x20 zst.length y20 x21 zpt.length y21) 34)))
              have HOW := Lib.hid (HROW.out _ KB.out.b)
              have HZO := Lib.hid (op_new (k := zk) (n := zn) (rs := zrs) (show World.ownsRow W21 _ 21 1 _ _ _ from by have := P21_8.out; rwa [fl_intC] at this) P21_12.out O21.out HWB.out (kbelow_one W21 (.cells (opcs zk zn x15 zrs.length y15 x20 zst.length y20 x21 zpt.length y21) 34)) (Nat.le_succ _) (Nat.le_succ _) (Nat.le_succ _))
              have HZN := Lib.hid (fun g (hg : (Value.slice x15 zrs.length y15).ownBlock = some g) => (Nat.le_of_succ_le (own_base P21_8.out hg) : wr.heap.size ≤ g))
              refine ⟨KB.out.c, ?_⟩
              go_frame
              refine h_all1 (i := 19) (by kernel_rfl) ?_
              refine o_step rfl (by rfl) ?_
              refine wp_append_lies _ (.tmp 16) (.tmp 34) 23 rfl 0 34 i0 _ 5 88 Try.underlying23 hi hz0 hz1 hz2 rfl (by decide) (.slice va k vc) k (fl ozC ys) rfl HOW.out ⟨W21.heap.size, 0, none⟩ 1 1 (ozC.c ⟨zk, zn, x15, y15, zrs, x20, y20, zst, x21, y21, zpt⟩) rfl rfl (World.news_of_block (heap_alloc_new _ _)) (ozC.one _) (by decide) (by unfold maxLen; omega) (by omega) (Nat.zero_le _) _ rfl ?_
              intro g cap w4 hown4 hgrow4 hat4 hlt4
              have NX := Lib.hid (HR.out.next rfl KB.out.b HZO.out HZN.out hgrow4 hown4 hat4 HYL.out (HEQ.out _ rfl))
              refine ⟨kept_box HR.out KB.out hgrow4, ?_⟩
              go_frame
              refine h_val (i := 20) (v := .slice (some ⟨g, 0, none⟩) (k + 1) cap) rfl (by kernel_rfl) (by kernel_rfl) (by kernel_rfl) (fun _ _ _ h => h) (by rfl) (fun wz hS => ?_) (kept_box HR.out KB.out hgrow4) ?_
              · skip
                go_simp
              go_frame
              refine h_done (by kernel_rfl) ?_
              go_wp2
              go_roundw
              case rel => exact ⟨k + 1, _, _, _, HLT.out, by rw [List.length_append, HYL.out]; rfl, rfl, by go_num, NX⟩
              case measure => have := HLT.out; simp [intOf]; omega
          · skip
            refine o_step rfl (by rfl) ?_
            refine wp_empty 32 41 chC.m rfl Try.underlying32 j3 hj3 (fun q22 W22 o22 b22 => ?_)
            have K22 := Lib.hid (K14.out.below b22)
            have O22 := Lib.hid (owns_mono (B' := wr.heap.size + 1) o22 (by have := K14.out.hi; first | exact this | (simp only [World.size_drew] at *; exact this)))
            have P22_5 := Lib.hid (owns_below P14_5.out b22)
            have P22_9 := Lib.hid (owns_below O14.out b22)
            clear o22 b22
            refine ⟨K22.out.c, ?_⟩
            go_frame
            refine h_all1 (i := 8) (by kernel_rfl) ?_
            refine o_step rfl (by rfl) ?_
            refine wp_append_rowC (C := intC) (.tmp 21) (.tmp 23) 30 rfl (wr.heap.size + 1) 21 j1 (.int .i32 0) 4 Try.underlying30 hj1 hj10 hj11 hj12 rfl (.slice (some ⟨q1, 0, none⟩) 0 0) 0 [] rfl P22_5.out _ zrs rfl (HOK.out _ K22.out.b).r.rowC (by have := HS1.out; unfold maxLen; omega) (by have := HS1.out; omega) (by have := K22.out.hi; omega) (fun v23 W23 o23 g23 => ?_)
            rw [Nat.zero_add, List.nil_append] at o23
            obtain ⟨x23, y23, rfl, -, -⟩ := own_shape o23
            have K23 := Lib.hid (K22.out.grown P22_5.out (Nat.lt_succ_self _) g23)
            have O23 := Lib.hid o23
            have P23_9 := Lib.hid (own_far2 P22_9.out P22_5.out (by decide) g23)
            have P23_13 := Lib.hid (own_far2 O22.out P22_5.out (by decide) g23)
            clear o23 g23
            refine ⟨K23.out.c, ?_⟩
            go_frame
            refine h_all1 (i := 12) (by kernel_rfl) ?_
            refine o_step rfl (by rfl) ?_
            refine wp_append_rowC (C := attC) (.tmp 25) (.tmp 27) 31 rfl (wr.heap.size + 1) 39 j2 (av noAtt) 48 Try.underlying31 hj2 hj20 hj21 hj22 rfl (.slice (some ⟨q14, 0, none⟩) 0 0) 0 [] rfl P23_9.out _ zst rfl (HOK.out _ K23.out.b).s (by have := HS2.out; unfold maxLen; omega) (by have := HS2.out; omega) (by have := K23.out.hi; omega) (fun v24 W24 o24 g24 => ?_)
            rw [Nat.zero_add, List.nil_append] at o24
            obtain ⟨x24, y24, rfl, -, -⟩ := own_shape o24
            have K24 := Lib.hid (K23.out.grown P23_9.out (Nat.lt_succ_self _) g24)
            have O24 := Lib.hid o24
            have P24_13 := Lib.hid (own_far2 P23_13.out P23_9.out (by decide) g24)
            have P24_8 := Lib.hid (own_far2 O23.out P23_9.out (by decide) g24)
            clear o24 g24
            refine ⟨K24.out.c, ?_⟩
            go_frame
            refine h_all1 (i := 16) (by kernel_rfl) ?_
            refine o_step rfl (by rfl) ?_
            refine wp_append_rowC (C := chC) (.tmp 29) (.tmp 31) 32 rfl (wr.heap.size + 1) 41 j3 (cv noChg) 56 Try.underlying32 hj3 hj30 hj31 hj32 rfl (.slice (some ⟨q22, 0, none⟩) 0 0) 0 [] rfl P24_13.out _ zpt rfl (HOK.out _ K24.out.b).p (by have := HS3.out; unfold maxLen; omega) (by have := HS3.out; omega) (by have := K24.out.hi; omega) (fun v25 W25 o25 g25 => ?_)
            rw [Nat.zero_add, List.nil_append] at o25
            obtain ⟨x25, y25, rfl, -, -⟩ := own_shape o25
            have K25 := Lib.hid (K24.out.grown P24_13.out (Nat.lt_succ_self _) g25)
            have O25 := Lib.hid o25
            have P25_8 := Lib.hid (own_far2 P24_8.out P24_13.out (by decide) g25)
            have P25_12 := Lib.hid (own_far2 O24.out P24_13.out (by decide) g25)
            clear o25 g25
            refine ⟨K25.out.c, ?_⟩
            go_frame
            refine h_val (i := 17) (v := .agg (opcs zk zn x23 zrs.length y23 x24 zst.length y24 x25 zpt.length y25)) rfl (by kernel_rfl) (by kernel_rfl) (by kernel_rfl) (fun _ _ _ h => h) (by rfl) (fun wz hS => ?_) K25.out.c ?_
            · skip
              go_simp
            go_frame
            refine h_all1 (i := 18) (by kernel_rfl) ?_
            refine o_step rfl (by rfl) ?_
            refine wp_do (v := .slice (some ⟨W25.heap.size, 0, none⟩) 1 1) (w' := W25.alloc (.cells (opcs zk zn x23 zrs.length y23 x24 zst.length y24 x25 zpt.length y25) 34)) (by go_simp) ?_
            have KB := Lib.hid (K25.out.below (kbelow_one W25 (.cells (opcs zk zn x23 zrs.length y23 x24 zst.length y24 x25 zpt.length y25) 34)))
            have HOW := Lib.hid (HROW.out _ KB.out.b)
            have HZO := Lib.hid (op_new (k := zk) (n := zn) (rs := zrs) (show World.ownsRow W25 _ 21 1 _ _ _ from by have := P25_8.out; rwa [fl_intC] at this) P25_12.out O25.out HWB.out (kbelow_one W25 (.cells (opcs zk zn x23 zrs.length y23 x24 zst.length y24 x25 zpt.length y25) 34)) (Nat.le_succ _) (Nat.le_succ _) (Nat.le_succ _))
            have HZN := Lib.hid (fun g (hg : (Value.slice x23 zrs.length y23).ownBlock = some g) => (Nat.le_of_succ_le (own_base P25_8.out hg) : wr.heap.size ≤ g))
            refine ⟨KB.out.c, ?_⟩
            go_frame
            refine h_all1 (i := 19) (by kernel_rfl) ?_
            refine o_step rfl (by rfl) ?_
            refine wp_append_lies _ (.tmp 16) (.tmp 34) 23 rfl 0 34 i0 _ 5 88 Try.underlying23 hi hz0 hz1 hz2 rfl (by decide) (.slice va k vc) k (fl ozC ys) rfl HOW.out ⟨W25.heap.size, 0, none⟩ 1 1 (ozC.c ⟨zk, zn, x23, y23, zrs, x24, y24, zst, x25, y25, zpt⟩) rfl rfl (World.news_of_block (heap_alloc_new _ _)) (ozC.one _) (by decide) (by unfold maxLen; omega) (by omega) (Nat.zero_le _) _ rfl ?_
            intro g cap w4 hown4 hgrow4 hat4 hlt4
            have NX := Lib.hid (HR.out.next rfl KB.out.b HZO.out HZN.out hgrow4 hown4 hat4 HYL.out (HEQ.out _ rfl))
            refine ⟨kept_box HR.out KB.out hgrow4, ?_⟩
            go_frame
            refine h_val (i := 20) (v := .slice (some ⟨g, 0, none⟩) (k + 1) cap) rfl (by kernel_rfl) (by kernel_rfl) (by kernel_rfl) (fun _ _ _ h => h) (by rfl) (fun wz hS => ?_) (kept_box HR.out KB.out hgrow4) ?_
            · skip
              go_simp
            go_frame
            refine h_done (by kernel_rfl) ?_
            go_wp2
            go_roundw
            case rel => exact ⟨k + 1, _, _, _, HLT.out, by rw [List.length_append, HYL.out]; rfl, rfl, by go_num, NX⟩
            case measure => have := HLT.out; simp [intOf]; omega
        · skip
          refine o_step rfl (by rfl) ?_
          refine wp_empty 32 41 chC.m rfl Try.underlying32 j3 hj3 (fun q26 W26 o26 b26 => ?_)
          have K26 := Lib.hid (K1.out.below b26)
          have O26 := Lib.hid (owns_mono (B' := wr.heap.size + 1) o26 (by have := K1.out.hi; first | exact this | (simp only [World.size_drew] at *; exact this)))
          have P26_5 := Lib.hid (owns_below O1.out b26)
          clear o26 b26
          refine ⟨K26.out.c, ?_⟩
          go_frame
          refine h_all2 (i := 8) (j := 9) (by kernel_rfl) ?_ ?_
          · skip
            refine o_step rfl (by rfl) ?_
            refine wp_append_rowC (C := intC) (.tmp 21) (.tmp 23) 30 rfl (wr.heap.size + 1) 21 j1 (.int .i32 0) 4 Try.underlying30 hj1 hj10 hj11 hj12 rfl (.slice (some ⟨q1, 0, none⟩) 0 0) 0 [] rfl P26_5.out _ zrs rfl (HOK.out _ K26.out.b).r.rowC (by have := HS1.out; unfold maxLen; omega) (by have := HS1.out; omega) (by have := K26.out.hi; omega) (fun v27 W27 o27 g27 => ?_)
            rw [Nat.zero_add, List.nil_append] at o27
            obtain ⟨x27, y27, rfl, -, -⟩ := own_shape o27
            have K27 := Lib.hid (K26.out.grown P26_5.out (Nat.lt_succ_self _) g27)
            have O27 := Lib.hid o27
            have P27_13 := Lib.hid (own_far2 O26.out P26_5.out (by decide) g27)
            clear o27 g27
            refine ⟨K27.out.c, ?_⟩
            go_frame
            refine h_all1 (i := 9) (by kernel_rfl) ?_
            refine o_step rfl (by rfl) ?_
            refine wp_empty 31 39 attC.m rfl Try.underlying31 j2 hj2 (fun q28 W28 o28 b28 => ?_)
            have K28 := Lib.hid (K27.out.below b28)
            have O28 := Lib.hid (owns_mono (B' := wr.heap.size + 1) o28 (by have := K27.out.hi; first | exact this | (simp only [World.size_drew] at *; exact this)))
            have P28_13 := Lib.hid (owns_below P27_13.out b28)
            have P28_8 := Lib.hid (owns_below O27.out b28)
            clear o28 b28
            refine ⟨K28.out.c, ?_⟩
            go_frame
            refine h_all1 (i := 12) (by kernel_rfl) ?_
            refine o_step rfl (by rfl) ?_
            refine wp_append_rowC (C := attC) (.tmp 25) (.tmp 27) 31 rfl (wr.heap.size + 1) 39 j2 (av noAtt) 48 Try.underlying31 hj2 hj20 hj21 hj22 rfl (.slice (some ⟨q28, 0, none⟩) 0 0) 0 [] rfl O28.out _ zst rfl (HOK.out _ K28.out.b).s (by have := HS2.out; unfold maxLen; omega) (by have := HS2.out; omega) (by have := K28.out.hi; omega) (fun v29 W29 o29 g29 => ?_)
            rw [Nat.zero_add, List.nil_append] at o29
            obtain ⟨x29, y29, rfl, -, -⟩ := own_shape o29
            have K29 := Lib.hid (K28.out.grown O28.out (Nat.lt_succ_self _) g29)
            have O29 := Lib.hid o29
            have P29_13 := Lib.hid (own_far2 P28_13.out O28.out (by decide) g29)
            have P29_8 := Lib.hid (own_far2 P28_8.out O28.out (by decide) g29)
            clear o29 g29
            refine ⟨K29.out.c, ?_⟩
            go_frame
            refine h_all1 (i := 16) (by kernel_rfl) ?_
            refine o_step rfl (by rfl) ?_
            refine wp_append_rowC (C := chC) (.tmp 29) (.tmp 31) 32 rfl (wr.heap.size + 1) 41 j3 (cv noChg) 56 Try.underlying32 hj3 hj30 hj31 hj32 rfl (.slice (some ⟨q26, 0, none⟩) 0 0) 0 [] rfl P29_13.out _ zpt rfl (HOK.out _ K29.out.b).p (by have := HS3.out; unfold maxLen; omega) (by have := HS3.out; omega) (by have := K29.out.hi; omega) (fun v30 W30 o30 g30 => ?_)
            rw [Nat.zero_add, List.nil_append] at o30
            obtain ⟨x30, y30, rfl, -, -⟩ := own_shape o30
            have K30 := Lib.hid (K29.out.grown P29_13.out (Nat.lt_succ_self _) g30)
            have O30 := Lib.hid o30
            have P30_8 := Lib.hid (own_far2 P29_8.out P29_13.out (by decide) g30)
            have P30_12 := Lib.hid (own_far2 O29.out P29_13.out (by decide) g30)
            clear o30 g30
            refine ⟨K30.out.c, ?_⟩
            go_frame
            refine h_val (i := 17) (v := .agg (opcs zk zn x27 zrs.length y27 x29 zst.length y29 x30 zpt.length y30)) rfl (by kernel_rfl) (by kernel_rfl) (by kernel_rfl) (fun _ _ _ h => h) (by rfl) (fun wz hS => ?_) K30.out.c ?_
            · skip
              go_simp
            go_frame
            refine h_all1 (i := 18) (by kernel_rfl) ?_
            refine o_step rfl (by rfl) ?_
            refine wp_do (v := .slice (some ⟨W30.heap.size, 0, none⟩) 1 1) (w' := W30.alloc (.cells (opcs zk zn x27 zrs.length y27 x29 zst.length y29 x30 zpt.length y30) 34)) (by go_simp) ?_
            have KB := Lib.hid (K30.out.below (kbelow_one W30 (.cells (opcs zk zn x27 zrs.length y27 x29 zst.length y29 x30 zpt.length y30) 34)))
            have HOW := Lib.hid (HROW.out _ KB.out.b)
            have HZO := Lib.hid (op_new (k := zk) (n := zn) (rs := zrs) (show World.ownsRow W30 _ 21 1 _ _ _ from by have := P30_8.out; rwa [fl_intC] at this) P30_12.out O30.out HWB.out (kbelow_one W30 (.cells (opcs zk zn x27 zrs.length y27 x29 zst.length y29 x30 zpt.length y30) 34)) (Nat.le_succ _) (Nat.le_succ _) (Nat.le_succ _))
            have HZN := Lib.hid (fun g (hg : (Value.slice x27 zrs.length y27).ownBlock = some g) => (Nat.le_of_succ_le (own_base P30_8.out hg) : wr.heap.size ≤ g))
            refine ⟨KB.out.c, ?_⟩
            go_frame
            refine h_all1 (i := 19) (by kernel_rfl) ?_
            refine o_step rfl (by rfl) ?_
            refine wp_append_lies _ (.tmp 16) (.tmp 34) 23 rfl 0 34 i0 _ 5 88 Try.underlying23 hi hz0 hz1 hz2 rfl (by decide) (.slice va k vc) k (fl ozC ys) rfl HOW.out ⟨W30.heap.size, 0, none⟩ 1 1 (ozC.c ⟨zk, zn, x27, y27, zrs, x29, y29, zst, x30, y30, zpt⟩) rfl rfl (World.news_of_block (heap_alloc_new _ _)) (ozC.one _) (by decide) (by unfold maxLen; omega) (by omega) (Nat.zero_le _) _ rfl ?_
            intro g cap w4 hown4 hgrow4 hat4 hlt4
            have NX := Lib.hid (HR.out.next rfl KB.out.b HZO.out HZN.out hgrow4 hown4 hat4 HYL.out (HEQ.out _ rfl))
            refine ⟨kept_box HR.out KB.out hgrow4, ?_⟩
            go_frame
            refine h_val (i := 20) (v := .slice (some ⟨g, 0, none⟩) (k + 1) cap) rfl (by kernel_rfl) (by kernel_rfl) (by kernel_rfl) (fun _ _ _ h => h) (by rfl) (fun wz hS => ?_) (kept_box HR.out KB.out hgrow4) ?_
            · skip
              go_simp
            go_frame
            refine h_done (by kernel_rfl) ?_
            go_wp2
            go_roundw
            case rel => exact ⟨k + 1, _, _, _, HLT.out, by rw [List.length_append, HYL.out]; rfl, rfl, by go_num, NX⟩
            case measure => have := HLT.out; simp [intOf]; omega
          · skip
            refine o_step rfl (by rfl) ?_
            refine wp_empty 31 39 attC.m rfl Try.underlying31 j2 hj2 (fun q31 W31 o31 b31 => ?_)
            have K31 := Lib.hid (K26.out.below b31)
            have O31 := Lib.hid (owns_mono (B' := wr.heap.size + 1) o31 (by have := K26.out.hi; first | exact this | (simp only [World.size_drew] at *; exact this)))
            have P31_5 := Lib.hid (owns_below P26_5.out b31)
            have P31_13 := Lib.hid (owns_below O26.out b31)
            clear o31 b31
            refine ⟨K31.out.c, ?_⟩
            go_frame
            refine h_all1 (i := 8) (by kernel_rfl) ?_
            refine o_step rfl (by rfl) ?_
            refine wp_append_rowC (C := intC) (.tmp 21) (.tmp 23) 30 rfl (wr.heap.size + 1) 21 j1 (.int .i32 0) 4 Try.underlying30 hj1 hj10 hj11 hj12 rfl (.slice (some ⟨q1, 0, none⟩) 0 0) 0 [] rfl P31_5.out _ zrs rfl (HOK.out _ K31.out.b).r.rowC (by have := HS1.out; unfold maxLen; omega) (by have := HS1.out; omega) (by have := K31.out.hi; omega) (fun v32 W32 o32 g32 => ?_)
            rw [Nat.zero_add, List.nil_append] at o32
            obtain ⟨x32, y32, rfl, -, -⟩ := own_shape o32
            have K32 := Lib.hid (K31.out.grown P31_5.out (Nat.lt_succ_self _) g32)
            have O32 := Lib.hid o32
            have P32_13 := Lib.hid (own_far2 P31_13.out P31_5.out (by decide) g32)
            have P32_9 := Lib.hid (own_far2 O31.out P31_5.out (by decide) g32)
            clear o32 g32
            refine ⟨K32.out.c, ?_⟩
            go_frame
            refine h_all1 (i := 12) (by kernel_rfl) ?_
            refine o_step rfl (by rfl) ?_
            refine wp_append_rowC (C := attC) (.tmp 25) (.tmp 27) 31 rfl (wr.heap.size + 1) 39 j2 (av noAtt) 48 Try.underlying31 hj2 hj20 hj21 hj22 rfl (.slice (some ⟨q31, 0, none⟩) 0 0) 0 [] rfl P32_9.out _ zst rfl (HOK.out _ K32.out.b).s (by have := HS2.out; unfold maxLen; omega) (by have := HS2.out; omega) (by have := K32.out.hi; omega) (fun v33 W33 o33 g33 => ?_)
            rw [Nat.zero_add, List.nil_append] at o33
            obtain ⟨x33, y33, rfl, -, -⟩ := own_shape o33
            have K33 := Lib.hid (K32.out.grown P32_9.out (Nat.lt_succ_self _) g33)
            have O33 := Lib.hid o33
            have P33_13 := Lib.hid (own_far2 P32_13.out P32_9.out (by decide) g33)
            have P33_8 := Lib.hid (own_far2 O32.out P32_9.out (by decide) g33)
            clear o33 g33
            refine ⟨K33.out.c, ?_⟩
            go_frame
            refine h_all1 (i := 16) (by kernel_rfl) ?_
            refine o_step rfl (by rfl) ?_
            refine wp_append_rowC (C := chC) (.tmp 29) (.tmp 31) 32 rfl (wr.heap.size + 1) 41 j3 (cv noChg) 56 Try.underlying32 hj3 hj30 hj31 hj32 rfl (.slice (some ⟨q26, 0, none⟩) 0 0) 0 [] rfl P33_13.out _ zpt rfl (HOK.out _ K33.out.b).p (by have := HS3.out; unfold maxLen; omega) (by have := HS3.out; omega) (by have := K33.out.hi; omega) (fun v34 W34 o34 g34 => ?_)
            rw [Nat.zero_add, List.nil_append] at o34
            obtain ⟨x34, y34, rfl, -, -⟩ := own_shape o34
            have K34 := Lib.hid (K33.out.grown P33_13.out (Nat.lt_succ_self _) g34)
            have O34 := Lib.hid o34
            have P34_8 := Lib.hid (own_far2 P33_8.out P33_13.out (by decide) g34)
            have P34_12 := Lib.hid (own_far2 O33.out P33_13.out (by decide) g34)
            clear o34 g34
            refine ⟨K34.out.c, ?_⟩
            go_frame
            refine h_val (i := 17) (v := .agg (opcs zk zn x32 zrs.length y32 x33 zst.length y33 x34 zpt.length y34)) rfl (by kernel_rfl) (by kernel_rfl) (by kernel_rfl) (fun _ _ _ h => h) (by rfl) (fun wz hS => ?_) K34.out.c ?_
            · skip
              go_simp
            go_frame
            refine h_all1 (i := 18) (by kernel_rfl) ?_
            refine o_step rfl (by rfl) ?_
            refine wp_do (v := .slice (some ⟨W34.heap.size, 0, none⟩) 1 1) (w' := W34.alloc (.cells (opcs zk zn x32 zrs.length y32 x33 zst.length y33 x34 zpt.length y34) 34)) (by go_simp) ?_
            have KB := Lib.hid (K34.out.below (kbelow_one W34 (.cells (opcs zk zn x32 zrs.length y32 x33 zst.length y33 x34 zpt.length y34) 34)))
            have HOW := Lib.hid (HROW.out _ KB.out.b)
            have HZO := Lib.hid (op_new (k := zk) (n := zn) (rs := zrs) (show World.ownsRow W34 _ 21 1 _ _ _ from by have := P34_8.out; rwa [fl_intC] at this) P34_12.out O34.out HWB.out (kbelow_one W34 (.cells (opcs zk zn x32 zrs.length y32 x33 zst.length y33 x34 zpt.length y34) 34)) (Nat.le_succ _) (Nat.le_succ _) (Nat.le_succ _))
            have HZN := Lib.hid (fun g (hg : (Value.slice x32 zrs.length y32).ownBlock = some g) => (Nat.le_of_succ_le (own_base P34_8.out hg) : wr.heap.size ≤ g))
            refine ⟨KB.out.c, ?_⟩
            go_frame
            refine h_all1 (i := 19) (by kernel_rfl) ?_
            refine o_step rfl (by rfl) ?_
            refine wp_append_lies _ (.tmp 16) (.tmp 34) 23 rfl 0 34 i0 _ 5 88 Try.underlying23 hi hz0 hz1 hz2 rfl (by decide) (.slice va k vc) k (fl ozC ys) rfl HOW.out ⟨W34.heap.size, 0, none⟩ 1 1 (ozC.c ⟨zk, zn, x32, y32, zrs, x33, y33, zst, x34, y34, zpt⟩) rfl rfl (World.news_of_block (heap_alloc_new _ _)) (ozC.one _) (by decide) (by unfold maxLen; omega) (by omega) (Nat.zero_le _) _ rfl ?_
            intro g cap w4 hown4 hgrow4 hat4 hlt4
            have NX := Lib.hid (HR.out.next rfl KB.out.b HZO.out HZN.out hgrow4 hown4 hat4 HYL.out (HEQ.out _ rfl))
            refine ⟨kept_box HR.out KB.out hgrow4, ?_⟩
            go_frame
            refine h_val (i := 20) (v := .slice (some ⟨g, 0, none⟩) (k + 1) cap) rfl (by kernel_rfl) (by kernel_rfl) (by kernel_rfl) (fun _ _ _ h => h) (by rfl) (fun wz hS => ?_) (kept_box HR.out KB.out hgrow4) ?_
            · skip
              go_simp
            go_frame
            refine h_done (by kernel_rfl) ?_
            go_wp2
            go_roundw
            case rel => exact ⟨k + 1, _, _, _, HLT.out, by rw [List.length_append, HYL.out]; rfl, rfl, by go_num, NX⟩
            case measure => have := HLT.out; simp [intOf]; omega
      · skip
        refine o_step rfl (by rfl) ?_
        refine wp_empty 31 39 attC.m rfl Try.underlying31 j2 hj2 (fun q35 W35 o35 b35 => ?_)
        have K35 := Lib.hid (K0.out.below b35)
        have O35 := Lib.hid (owns_mono (B' := wr.heap.size + 1) o35 (by have := K0.out.hi; first | exact this | (simp only [World.size_drew] at *; exact this)))
        clear o35 b35
        refine ⟨K35.out.c, ?_⟩
        go_frame
        refine h_all2 (i := 5) (j := 13) (by kernel_rfl) ?_ ?_
        · skip
          refine o_step rfl (by rfl) ?_
          refine wp_empty 30 21 intC.m rfl Try.underlying30 j1 hj1 (fun q36 W36 o36 b36 => ?_)
          have K36 := Lib.hid (K35.out.below b36)
          have O36 := Lib.hid (owns_mono (B' := wr.heap.size + 1) o36 (by have := K35.out.hi; first | exact this | (simp only [World.size_drew] at *; exact this)))
          have P36_9 := Lib.hid (owns_below O35.out b36)
          clear o36 b36
          refine ⟨K36.out.c, ?_⟩
          go_frame
          refine h_all2 (i := 8) (j := 13) (by kernel_rfl) ?_ ?_
          · skip
            refine o_step rfl (by rfl) ?_
            refine wp_append_rowC (C := intC) (.tmp 21) (.tmp 23) 30 rfl (wr.heap.size + 1) 21 j1 (.int .i32 0) 4 Try.underlying30 hj1 hj10 hj11 hj12 rfl (.slice (some ⟨q36, 0, none⟩) 0 0) 0 [] rfl O36.out _ zrs rfl (HOK.out _ K36.out.b).r.rowC (by have := HS1.out; unfold maxLen; omega) (by have := HS1.out; omega) (by have := K36.out.hi; omega) (fun v37 W37 o37 g37 => ?_)
            rw [Nat.zero_add, List.nil_append] at o37
            obtain ⟨x37, y37, rfl, -, -⟩ := own_shape o37
            have K37 := Lib.hid (K36.out.grown O36.out (Nat.lt_succ_self _) g37)
            have O37 := Lib.hid o37
            have P37_9 := Lib.hid (own_far2 P36_9.out O36.out (by decide) g37)
            clear o37 g37
            refine ⟨K37.out.c, ?_⟩
            go_frame
            refine h_all2 (i := 12) (j := 13) (by kernel_rfl) ?_ ?_
            · skip
              refine o_step rfl (by rfl) ?_
              refine wp_append_rowC (C := attC) (.tmp 25) (.tmp 27) 31 rfl (wr.heap.size + 1) 39 j2 (av noAtt) 48 Try.underlying31 hj2 hj20 hj21 hj22 rfl (.slice (some ⟨q35, 0, none⟩) 0 0) 0 [] rfl P37_9.out _ zst rfl (HOK.out _ K37.out.b).s (by have := HS2.out; unfold maxLen; omega) (by have := HS2.out; omega) (by have := K37.out.hi; omega) (fun v38 W38 o38 g38 => ?_)
              rw [Nat.zero_add, List.nil_append] at o38
              obtain ⟨x38, y38, rfl, -, -⟩ := own_shape o38
              have K38 := Lib.hid (K37.out.grown P37_9.out (Nat.lt_succ_self _) g38)
              have O38 := Lib.hid o38
              have P38_8 := Lib.hid (own_far2 O37.out P37_9.out (by decide) g38)
              clear o38 g38
              refine ⟨K38.out.c, ?_⟩
              go_frame
              refine h_all1 (i := 13) (by kernel_rfl) ?_
              refine o_step rfl (by rfl) ?_
              refine wp_empty 32 41 chC.m rfl Try.underlying32 j3 hj3 (fun q39 W39 o39 b39 => ?_)
              have K39 := Lib.hid (K38.out.below b39)
              have O39 := Lib.hid (owns_mono (B' := wr.heap.size + 1) o39 (by have := K38.out.hi; first | exact this | (simp only [World.size_drew] at *; exact this)))
              have P39_8 := Lib.hid (owns_below P38_8.out b39)
              have P39_12 := Lib.hid (owns_below O38.out b39)
              clear o39 b39
              refine ⟨K39.out.c, ?_⟩
              go_frame
              refine h_all1 (i := 16) (by kernel_rfl) ?_
              refine o_step rfl (by rfl) ?_
              refine wp_append_rowC (C := chC) (.tmp 29) (.tmp 31) 32 rfl (wr.heap.size + 1) 41 j3 (cv noChg) 56 Try.underlying32 hj3 hj30 hj31 hj32 rfl (.slice (some ⟨q39, 0, none⟩) 0 0) 0 [] rfl O39.out _ zpt rfl (HOK.out _ K39.out.b).p (by have := HS3.out; unfold maxLen; omega) (by have := HS3.out; omega) (by have := K39.out.hi; omega) (fun v40 W40 o40 g40 => ?_)
              rw [Nat.zero_add, List.nil_append] at o40
              obtain ⟨x40, y40, rfl, -, -⟩ := own_shape o40
              have K40 := Lib.hid (K39.out.grown O39.out (Nat.lt_succ_self _) g40)
              have O40 := Lib.hid o40
              have P40_8 := Lib.hid (own_far2 P39_8.out O39.out (by decide) g40)
              have P40_12 := Lib.hid (own_far2 P39_12.out O39.out (by decide) g40)
              clear o40 g40
              refine ⟨K40.out.c, ?_⟩
              go_frame
              refine h_val (i := 17) (v := .agg (opcs zk zn x37 zrs.length y37 x38 zst.length y38 x40 zpt.length y40)) rfl (by kernel_rfl) (by kernel_rfl) (by kernel_rfl) (fun _ _ _ h => h) (by rfl) (fun wz hS => ?_) K40.out.c ?_
              · skip
                go_simp
              go_frame
              refine h_all1 (i := 18) (by kernel_rfl) ?_
              refine o_step rfl (by rfl) ?_
              refine wp_do (v := .slice (some ⟨W40.heap.size, 0, none⟩) 1 1) (w' := W40.alloc (.cells (opcs zk zn x37 zrs.length y37 x38 zst.length y38 x40 zpt.length y40) 34)) (by go_simp) ?_
              have KB := Lib.hid (K40.out.below (kbelow_one W40 (.cells (opcs zk zn x37 zrs.length y37 x38 zst.length y38 x40 zpt.length y40) 34)))
              have HOW := Lib.hid (HROW.out _ KB.out.b)
              have HZO := Lib.hid (op_new (k := zk) (n := zn) (rs := zrs) (show World.ownsRow W40 _ 21 1 _ _ _ from by have := P40_8.out; rwa [fl_intC] at this) P40_12.out O40.out HWB.out (kbelow_one W40 (.cells (opcs zk zn x37 zrs.length y37 x38 zst.length y38 x40 zpt.length y40) 34)) (Nat.le_succ _) (Nat.le_succ _) (Nat.le_succ _))
              have HZN := Lib.hid (fun g (hg : (Value.slice x37 zrs.length y37).ownBlock = some g) => (Nat.le_of_succ_le (own_base P40_8.out hg) : wr.heap.size ≤ g))
              refine ⟨KB.out.c, ?_⟩
              go_frame
              refine h_all1 (i := 19) (by kernel_rfl) ?_
              refine o_step rfl (by rfl) ?_
              refine wp_append_lies _ (.tmp 16) (.tmp 34) 23 rfl 0 34 i0 _ 5 88 Try.underlying23 hi hz0 hz1 hz2 rfl (by decide) (.slice va k vc) k (fl ozC ys) rfl HOW.out ⟨W40.heap.size, 0, none⟩ 1 1 (ozC.c ⟨zk, zn, x37, y37, zrs, x38, y38, zst, x40, y40, zpt⟩) rfl rfl (World.news_of_block (heap_alloc_new _ _)) (ozC.one _) (by decide) (by unfold maxLen; omega) (by omega) (Nat.zero_le _) _ rfl ?_
              intro g cap w4 hown4 hgrow4 hat4 hlt4
              have NX := Lib.hid (HR.out.next rfl KB.out.b HZO.out HZN.out hgrow4 hown4 hat4 HYL.out (HEQ.out _ rfl))
              refine ⟨kept_box HR.out KB.out hgrow4, ?_⟩
              go_frame
              refine h_val (i := 20) (v := .slice (some ⟨g, 0, none⟩) (k + 1) cap) rfl (by kernel_rfl) (by kernel_rfl) (by kernel_rfl) (fun _ _ _ h => h) (by rfl) (fun wz hS => ?_) (kept_box HR.out KB.out hgrow4) ?_
              · skip
                go_simp
              go_frame
              refine h_done (by kernel_rfl) ?_
              go_wp2
              go_roundw
              case rel => exact ⟨k + 1, _, _, _, HLT.out, by rw [List.length_append, HYL.out]; rfl, rfl, by go_num, NX⟩
              case measure => have := HLT.out; simp [intOf]; omega
            · skip
              refine o_step rfl (by rfl) ?_
              refine wp_empty 32 41 chC.m rfl Try.underlying32 j3 hj3 (fun q41 W41 o41 b41 => ?_)
              have K41 := Lib.hid (K37.out.below b41)
              have O41 := Lib.hid (owns_mono (B' := wr.heap.size + 1) o41 (by have := K37.out.hi; first | exact this | (simp only [World.size_drew] at *; exact this)))
              have P41_9 := Lib.hid (owns_below P37_9.out b41)
              have P41_8 := Lib.hid (owns_below O37.out b41)
              clear o41 b41
              refine ⟨K41.out.c, ?_⟩
              go_frame
              refine h_all1 (i := 12) (by kernel_rfl) ?_
              refine o_step rfl (by rfl) ?_
              refine wp_append_rowC (C := attC) (.tmp 25) (.tmp 27) 31 rfl (wr.heap.size + 1) 39 j2 (av noAtt) 48 Try.underlying31 hj2 hj20 hj21 hj22 rfl (.slice (some ⟨q35, 0, none⟩) 0 0) 0 [] rfl P41_9.out _ zst rfl (HOK.out _ K41.out.b).s (by have := HS2.out; unfold maxLen; omega) (by have := HS2.out; omega) (by have := K41.out.hi; omega) (fun v42 W42 o42 g42 => ?_)
              rw [Nat.zero_add, List.nil_append] at o42
              obtain ⟨x42, y42, rfl, -, -⟩ := own_shape o42
              have K42 := Lib.hid (K41.out.grown P41_9.out (Nat.lt_succ_self _) g42)
              have O42 := Lib.hid o42
              have P42_8 := Lib.hid (own_far2 P41_8.out P41_9.out (by decide) g42)
              have P42_13 := Lib.hid (own_far2 O41.out P41_9.out (by decide) g42)
              clear o42 g42
              refine ⟨K42.out.c, ?_⟩
              go_frame
              refine h_all1 (i := 16) (by kernel_rfl) ?_
              refine o_step rfl (by rfl) ?_
              refine wp_append_rowC (C := chC) (.tmp 29) (.tmp 31) 32 rfl (wr.heap.size + 1) 41 j3 (cv noChg) 56 Try.underlying32 hj3 hj30 hj31 hj32 rfl (.slice (some ⟨q41, 0, none⟩) 0 0) 0 [] rfl P42_13.out _ zpt rfl (HOK.out _ K42.out.b).p (by have := HS3.out; unfold maxLen; omega) (by have := HS3.out; omega) (by have := K42.out.hi; omega) (fun v43 W43 o43 g43 => ?_)
              rw [Nat.zero_add, List.nil_append] at o43
              obtain ⟨x43, y43, rfl, -, -⟩ := own_shape o43
              have K43 := Lib.hid (K42.out.grown P42_13.out (Nat.lt_succ_self _) g43)
              have O43 := Lib.hid o43
              have P43_8 := Lib.hid (own_far2 P42_8.out P42_13.out (by decide) g43)
              have P43_12 := Lib.hid (own_far2 O42.out P42_13.out (by decide) g43)
              clear o43 g43
              refine ⟨K43.out.c, ?_⟩
              go_frame
              refine h_val (i := 17) (v := .agg (opcs zk zn x37 zrs.length y37 x42 zst.length y42 x43 zpt.length y43)) rfl (by kernel_rfl) (by kernel_rfl) (by kernel_rfl) (fun _ _ _ h => h) (by rfl) (fun wz hS => ?_) K43.out.c ?_
              · skip
                go_simp
              go_frame
              refine h_all1 (i := 18) (by kernel_rfl) ?_
              refine o_step rfl (by rfl) ?_
              refine wp_do (v := .slice (some ⟨W43.heap.size, 0, none⟩) 1 1) (w' := W43.alloc (.cells (opcs zk zn x37 zrs.length y37 x42 zst.length y42 x43 zpt.length y43) 34)) (by go_simp) ?_
              have KB := Lib.hid (K43.out.below (kbelow_one W43 (.cells (opcs zk zn x37 zrs.length y37 x42 zst.length y42 x43 zpt.length y43) 34)))
              have HOW := Lib.hid (HROW.out _ KB.out.b)
              have HZO := Lib.hid (op_new (k := zk) (n := zn) (rs := zrs) (show World.ownsRow W43 _ 21 1 _ _ _ from by have := P43_8.out; rwa [fl_intC] at this) P43_12.out O43.out HWB.out (kbelow_one W43 (.cells (opcs zk zn x37 zrs.length y37 x42 zst.length y42 x43 zpt.length y43) 34)) (Nat.le_succ _) (Nat.le_succ _) (Nat.le_succ _))
              have HZN := Lib.hid (fun g (hg : (Value.slice x37 zrs.length y37).ownBlock = some g) => (Nat.le_of_succ_le (own_base P43_8.out hg) : wr.heap.size ≤ g))
              refine ⟨KB.out.c, ?_⟩
              go_frame
              refine h_all1 (i := 19) (by kernel_rfl) ?_
              refine o_step rfl (by rfl) ?_
              refine wp_append_lies _ (.tmp 16) (.tmp 34) 23 rfl 0 34 i0 _ 5 88 Try.underlying23 hi hz0 hz1 hz2 rfl (by decide) (.slice va k vc) k (fl ozC ys) rfl HOW.out ⟨W43.heap.size, 0, none⟩ 1 1 (ozC.c ⟨zk, zn, x37, y37, zrs, x42, y42, zst, x43, y43, zpt⟩) rfl rfl (World.news_of_block (heap_alloc_new _ _)) (ozC.one _) (by decide) (by unfold maxLen; omega) (by omega) (Nat.zero_le _) _ rfl ?_
              intro g cap w4 hown4 hgrow4 hat4 hlt4
              have NX := Lib.hid (HR.out.next rfl KB.out.b HZO.out HZN.out hgrow4 hown4 hat4 HYL.out (HEQ.out _ rfl))
              refine ⟨kept_box HR.out KB.out hgrow4, ?_⟩
              go_frame
              refine h_val (i := 20) (v := .slice (some ⟨g, 0, none⟩) (k + 1) cap) rfl (by kernel_rfl) (by kernel_rfl) (by kernel_rfl) (fun _ _ _ h => h) (by rfl) (fun wz hS => ?_) (kept_box HR.out KB.out hgrow4) ?_
              · skip
                go_simp
              go_frame
              refine h_done (by kernel_rfl) ?_
              go_wp2
              go_roundw
              case rel => exact ⟨k + 1, _, _, _, HLT.out, by rw [List.length_append, HYL.out]; rfl, rfl, by go_num, NX⟩
              case measure => have := HLT.out; simp [intOf]; omega
          · skip
            refine o_step rfl (by rfl) ?_
            refine wp_empty 32 41 chC.m rfl Try.underlying32 j3 hj3 (fun q44 W44 o44 b44 => ?_)
            have K44 := Lib.hid (K36.out.below b44)
            have O44 := Lib.hid (owns_mono (B' := wr.heap.size + 1) o44 (by have := K36.out.hi; first | exact this | (simp only [World.size_drew] at *; exact this)))
            have P44_9 := Lib.hid (owns_below P36_9.out b44)
            have P44_5 := Lib.hid (owns_below O36.out b44)
            clear o44 b44
            refine ⟨K44.out.c, ?_⟩
            go_frame
            refine h_all1 (i := 8) (by kernel_rfl) ?_
            refine o_step rfl (by rfl) ?_
            refine wp_append_rowC (C := intC) (.tmp 21) (.tmp 23) 30 rfl (wr.heap.size + 1) 21 j1 (.int .i32 0) 4 Try.underlying30 hj1 hj10 hj11 hj12 rfl (.slice (some ⟨q36, 0, none⟩) 0 0) 0 [] rfl P44_5.out _ zrs rfl (HOK.out _ K44.out.b).r.rowC (by have := HS1.out; unfold maxLen; omega) (by have := HS1.out; omega) (by have := K44.out.hi; omega) (fun v45 W45 o45 g45 => ?_)
            rw [Nat.zero_add, List.nil_append] at o45
            obtain ⟨x45, y45, rfl, -, -⟩ := own_shape o45
            have K45 := Lib.hid (K44.out.grown P44_5.out (Nat.lt_succ_self _) g45)
            have O45 := Lib.hid o45
            have P45_9 := Lib.hid (own_far2 P44_9.out P44_5.out (by decide) g45)
            have P45_13 := Lib.hid (own_far2 O44.out P44_5.out (by decide) g45)
            clear o45 g45
            refine ⟨K45.out.c, ?_⟩
            go_frame
            refine h_all1 (i := 12) (by kernel_rfl) ?_
            refine o_step rfl (by rfl) ?_
            refine wp_append_rowC (C := attC) (.tmp 25) (.tmp 27) 31 rfl (wr.heap.size + 1) 39 j2 (av noAtt) 48 Try.underlying31 hj2 hj20 hj21 hj22 rfl (.slice (some ⟨q35, 0, none⟩) 0 0) 0 [] rfl P45_9.out _ zst rfl (HOK.out _ K45.out.b).s (by have := HS2.out; unfold maxLen; omega) (by have := HS2.out; omega) (by have := K45.out.hi; omega) (fun v46 W46 o46 g46 => ?_)
            rw [Nat.zero_add, List.nil_append] at o46
            obtain ⟨x46, y46, rfl, -, -⟩ := own_shape o46
            have K46 := Lib.hid (K45.out.grown P45_9.out (Nat.lt_succ_self _) g46)
            have O46 := Lib.hid o46
            have P46_13 := Lib.hid (own_far2 P45_13.out P45_9.out (by decide) g46)
            have P46_8 := Lib.hid (own_far2 O45.out P45_9.out (by decide) g46)
            clear o46 g46
            refine ⟨K46.out.c, ?_⟩
            go_frame
            refine h_all1 (i := 16) (by kernel_rfl) ?_
            refine o_step rfl (by rfl) ?_
            refine wp_append_rowC (C := chC) (.tmp 29) (.tmp 31) 32 rfl (wr.heap.size + 1) 41 j3 (cv noChg) 56 Try.underlying32 hj3 hj30 hj31 hj32 rfl (.slice (some ⟨q44, 0, none⟩) 0 0) 0 [] rfl P46_13.out _ zpt rfl (HOK.out _ K46.out.b).p (by have := HS3.out; unfold maxLen; omega) (by have := HS3.out; omega) (by have := K46.out.hi; omega) (fun v47 W47 o47 g47 => ?_)
            rw [Nat.zero_add, List.nil_append] at o47
            obtain ⟨x47, y47, rfl, -, -⟩ := own_shape o47
            have K47 := Lib.hid (K46.out.grown P46_13.out (Nat.lt_succ_self _) g47)
            have O47 := Lib.hid o47
            have P47_8 := Lib.hid (own_far2 P46_8.out P46_13.out (by decide) g47)
            have P47_12 := Lib.hid (own_far2 O46.out P46_13.out (by decide) g47)
            clear o47 g47
            refine ⟨K47.out.c, ?_⟩
            go_frame
            refine h_val (i := 17) (v := .agg (opcs zk zn x45 zrs.length y45 x46 zst.length y46 x47 zpt.length y47)) rfl (by kernel_rfl) (by kernel_rfl) (by kernel_rfl) (fun _ _ _ h => h) (by rfl) (fun wz hS => ?_) K47.out.c ?_
            · skip
              go_simp
            go_frame
            refine h_all1 (i := 18) (by kernel_rfl) ?_
            refine o_step rfl (by rfl) ?_
            refine wp_do (v := .slice (some ⟨W47.heap.size, 0, none⟩) 1 1) (w' := W47.alloc (.cells (opcs zk zn x45 zrs.length y45 x46 zst.length y46 x47 zpt.length y47) 34)) (by go_simp) ?_
            have KB := Lib.hid (K47.out.below (kbelow_one W47 (.cells (opcs zk zn x45 zrs.length y45 x46 zst.length y46 x47 zpt.length y47) 34)))
            have HOW := Lib.hid (HROW.out _ KB.out.b)
            have HZO := Lib.hid (op_new (k := zk) (n := zn) (rs := zrs) (show World.ownsRow W47 _ 21 1 _ _ _ from by have := P47_8.out; rwa [fl_intC] at this) P47_12.out O47.out HWB.out (kbelow_one W47 (.cells (opcs zk zn x45 zrs.length y45 x46 zst.length y46 x47 zpt.length y47) 34)) (Nat.le_succ _) (Nat.le_succ _) (Nat.le_succ _))
            have HZN := Lib.hid (fun g (hg : (Value.slice x45 zrs.length y45).ownBlock = some g) => (Nat.le_of_succ_le (own_base P47_8.out hg) : wr.heap.size ≤ g))
            refine ⟨KB.out.c, ?_⟩
            go_frame
            refine h_all1 (i := 19) (by kernel_rfl) ?_
            refine o_step rfl (by rfl) ?_
            refine wp_append_lies _ (.tmp 16) (.tmp 34) 23 rfl 0 34 i0 _ 5 88 Try.underlying23 hi hz0 hz1 hz2 rfl (by decide) (.slice va k vc) k (fl ozC ys) rfl HOW.out ⟨W47.heap.size, 0, none⟩ 1 1 (ozC.c ⟨zk, zn, x45, y45, zrs, x46, y46, zst, x47, y47, zpt⟩) rfl rfl (World.news_of_block (heap_alloc_new _ _)) (ozC.one _) (by decide) (by unfold maxLen; omega) (by omega) (Nat.zero_le _) _ rfl ?_
            intro g cap w4 hown4 hgrow4 hat4 hlt4
            have NX := Lib.hid (HR.out.next rfl KB.out.b HZO.out HZN.out hgrow4 hown4 hat4 HYL.out (HEQ.out _ rfl))
            refine ⟨kept_box HR.out KB.out hgrow4, ?_⟩
            go_frame
            refine h_val (i := 20) (v := .slice (some ⟨g, 0, none⟩) (k + 1) cap) rfl (by kernel_rfl) (by kernel_rfl) (by kernel_rfl) (fun _ _ _ h => h) (by rfl) (fun wz hS => ?_) (kept_box HR.out KB.out hgrow4) ?_
            · skip
              go_simp
            go_frame
            refine h_done (by kernel_rfl) ?_
            go_wp2
            go_roundw
            case rel => exact ⟨k + 1, _, _, _, HLT.out, by rw [List.length_append, HYL.out]; rfl, rfl, by go_num, NX⟩
            case measure => have := HLT.out; simp [intOf]; omega
        · skip
          refine o_step rfl (by rfl) ?_
          refine wp_empty 32 41 chC.m rfl Try.underlying32 j3 hj3 (fun q48 W48 o48 b48 => ?_)
          have K48 := Lib.hid (K35.out.below b48)
          have O48 := Lib.hid (owns_mono (B' := wr.heap.size + 1) o48 (by have := K35.out.hi; first | exact this | (simp only [World.size_drew] at *; exact this)))
          have P48_9 := Lib.hid (owns_below O35.out b48)
          clear o48 b48
          refine ⟨K48.out.c, ?_⟩
          go_frame
          refine h_all1 (i := 5) (by kernel_rfl) ?_
          refine o_step rfl (by rfl) ?_
          refine wp_empty 30 21 intC.m rfl Try.underlying30 j1 hj1 (fun q49 W49 o49 b49 => ?_)
          have K49 := Lib.hid (K48.out.below b49)
          have O49 := Lib.hid (owns_mono (B' := wr.heap.size + 1) o49 (by have := K48.out.hi; first | exact this | (simp only [World.size_drew] at *; exact this)))
          have P49_9 := Lib.hid (owns_below P48_9.out b49)
          have P49_13 := Lib.hid (owns_below O48.out b49)
          clear o49 b49
          refine ⟨K49.out.c, ?_⟩
          go_frame
          refine h_all1 (i := 8) (by kernel_rfl) ?_
          refine o_step rfl (by rfl) ?_
          refine wp_append_rowC (C := intC) (.tmp 21) (.tmp 23) 30 rfl (wr.heap.size + 1) 21 j1 (.int .i32 0) 4 Try.underlying30 hj1 hj10 hj11 hj12 rfl (.slice (some ⟨q49, 0, none⟩) 0 0) 0 [] rfl O49.out _ zrs rfl (HOK.out _ K49.out.b).r.rowC (by have := HS1.out; unfold maxLen; omega) (by have := HS1.out; omega) (by have := K49.out.hi; omega) (fun v50 W50 o50 g50 => ?_)
          rw [Nat.zero_add, List.nil_append] at o50
          obtain ⟨x50, y50, rfl, -, -⟩ := own_shape o50
          have K50 := Lib.hid (K49.out.grown O49.out (Nat.lt_succ_self _) g50)
          have O50 := Lib.hid o50
          have P50_9 := Lib.hid (own_far2 P49_9.out O49.out (by decide) g50)
          have P50_13 := Lib.hid (own_far2 P49_13.out O49.out (by decide) g50)
          clear o50 g50
          refine ⟨K50.out.c, ?_⟩
          go_frame
          refine h_all1 (i := 12) (by kernel_rfl) ?_
          refine o_step rfl (by rfl) ?_
          refine wp_append_rowC (C := attC) (.tmp 25) (.tmp 27) 31 rfl (wr.heap.size + 1) 39 j2 (av noAtt) 48 Try.underlying31 hj2 hj20 hj21 hj22 rfl (.slice (some ⟨q35, 0, none⟩) 0 0) 0 [] rfl P50_9.out _ zst rfl (HOK.out _ K50.out.b).s (by have := HS2.out; unfold maxLen; omega) (by have := HS2.out; omega) (by have := K50.out.hi; omega) (fun v51 W51 o51 g51 => ?_)
          rw [Nat.zero_add, List.nil_append] at o51
          obtain ⟨x51, y51, rfl, -, -⟩ := own_shape o51
          have K51 := Lib.hid (K50.out.grown P50_9.out (Nat.lt_succ_self _) g51)
          have O51 := Lib.hid o51
          have P51_13 := Lib.hid (own_far2 P50_13.out P50_9.out (by decide) g51)
          have P51_8 := Lib.hid (own_far2 O50.out P50_9.out (by decide) g51)
          clear o51 g51
          refine ⟨K51.out.c, ?_⟩
          go_frame
          refine h_all1 (i := 16) (by kernel_rfl) ?_
          refine o_step rfl (by rfl) ?_
          refine wp_append_rowC (C := chC) (.tmp 29) (.tmp 31) 32 rfl (wr.heap.size + 1) 41 j3 (cv noChg) 56 Try.underlying32 hj3 hj30 hj31 hj32 rfl (.slice (some ⟨q48, 0, none⟩) 0 0) 0 [] rfl P51_13.out _ zpt rfl (HOK.out _ K51.out.b).p (by have := HS3.out; unfold maxLen; omega) (by have := HS3.out; omega) (by have := K51.out.hi; omega) (fun v52 W52 o52 g52 => ?_)
          rw [Nat.zero_add, List.nil_append] at o52
          obtain ⟨x52, y52, rfl, -, -⟩ := own_shape o52
          have K52 := Lib.hid (K51.out.grown P51_13.out (Nat.lt_succ_self _) g52)
          have O52 := Lib.hid o52
          have P52_8 := Lib.hid (own_far2 P51_8.out P51_13.out (by decide) g52)
          have P52_12 := Lib.hid (own_far2 O51.out P51_13.out (by decide) g52)
          clear o52 g52
          refine ⟨K52.out.c, ?_⟩
          go_frame
          refine h_val (i := 17) (v := .agg (opcs zk zn x50 zrs.length y50 x51 zst.length y51 x52 zpt.length y52)) rfl (by kernel_rfl) (by kernel_rfl) (by kernel_rfl) (fun _ _ _ h => h) (by rfl) (fun wz hS => ?_) K52.out.c ?_
          · skip
            go_simp
          go_frame
          refine h_all1 (i := 18) (by kernel_rfl) ?_
          refine o_step rfl (by rfl) ?_
          refine wp_do (v := .slice (some ⟨W52.heap.size, 0, none⟩) 1 1) (w' := W52.alloc (.cells (opcs zk zn x50 zrs.length y50 x51 zst.length y51 x52 zpt.length y52) 34)) (by go_simp) ?_
          have KB := Lib.hid (K52.out.below (kbelow_one W52 (.cells (opcs zk zn x50 zrs.length y50 x51 zst.length y51 x52 zpt.length y52) 34)))
          have HOW := Lib.hid (HROW.out _ KB.out.b)
          have HZO := Lib.hid (op_new (k := zk) (n := zn) (rs := zrs) (show World.ownsRow W52 _ 21 1 _ _ _ from by have := P52_8.out; rwa [fl_intC] at this) P52_12.out O52.out HWB.out (kbelow_one W52 (.cells (opcs zk zn x50 zrs.length y50 x51 zst.length y51 x52 zpt.length y52) 34)) (Nat.le_succ _) (Nat.le_succ _) (Nat.le_succ _))
          have HZN := Lib.hid (fun g (hg : (Value.slice x50 zrs.length y50).ownBlock = some g) => (Nat.le_of_succ_le (own_base P52_8.out hg) : wr.heap.size ≤ g))
          refine ⟨KB.out.c, ?_⟩
          go_frame
          refine h_all1 (i := 19) (by kernel_rfl) ?_
          refine o_step rfl (by rfl) ?_
          refine wp_append_lies _ (.tmp 16) (.tmp 34) 23 rfl 0 34 i0 _ 5 88 Try.underlying23 hi hz0 hz1 hz2 rfl (by decide) (.slice va k vc) k (fl ozC ys) rfl HOW.out ⟨W52.heap.size, 0, none⟩ 1 1 (ozC.c ⟨zk, zn, x50, y50, zrs, x51, y51, zst, x52, y52, zpt⟩) rfl rfl (World.news_of_block (heap_alloc_new _ _)) (ozC.one _) (by decide) (by unfold maxLen; omega) (by omega) (Nat.zero_le _) _ rfl ?_
          intro g cap w4 hown4 hgrow4 hat4 hlt4
          have NX := Lib.hid (HR.out.next rfl KB.out.b HZO.out HZN.out hgrow4 hown4 hat4 HYL.out (HEQ.out _ rfl))
          refine ⟨kept_box HR.out KB.out hgrow4, ?_⟩
          go_frame
          refine h_val (i := 20) (v := .slice (some ⟨g, 0, none⟩) (k + 1) cap) rfl (by kernel_rfl) (by kernel_rfl) (by kernel_rfl) (fun _ _ _ h => h) (by rfl) (fun wz hS => ?_) (kept_box HR.out KB.out hgrow4) ?_
          · skip
            go_simp
          go_frame
          refine h_done (by kernel_rfl) ?_
          go_wp2
          go_roundw
          case rel => exact ⟨k + 1, _, _, _, HLT.out, by rw [List.length_append, HYL.out]; rfl, rfl, by go_num, NX⟩
          case measure => have := HLT.out; simp [intOf]; omega
      · skip
        refine o_step rfl (by rfl) ?_
        refine wp_empty 32 41 chC.m rfl Try.underlying32 j3 hj3 (fun q53 W53 o53 b53 => ?_)
        have K53 := Lib.hid (K0.out.below b53)
        have O53 := Lib.hid (owns_mono (B' := wr.heap.size + 1) o53 (by have := K0.out.hi; first | exact this | (simp only [World.size_drew] at *; exact this)))
        clear o53 b53
        refine ⟨K53.out.c, ?_⟩
        go_frame
        refine h_all2 (i := 5) (j := 9) (by kernel_rfl) ?_ ?_
        · skip
          refine o_step rfl (by rfl) ?_
          refine wp_empty 30 21 intC.m rfl Try.underlying30 j1 hj1 (fun q54 W54 o54 b54 => ?_)
          have K54 := Lib.hid (K53.out.below b54)
          have O54 := Lib.hid (owns_mono (B' := wr.heap.size + 1) o54 (by have := K53.out.hi; first | exact this | (simp only [World.size_drew] at *; exact this)))
          have P54_13 := Lib.hid (owns_below O53.out b54)
          clear o54 b54
          refine ⟨K54.out.c, ?_⟩
          go_frame
          refine h_all2 (i := 8) (j := 9) (by kernel_rfl) ?_ ?_
          · skip
            refine o_step rfl (by rfl) ?_
            refine wp_append_rowC (C := intC) (.tmp 21) (.tmp 23) 30 rfl (wr.heap.size + 1) 21 j1 (.int .i32 0) 4 Try.underlying30 hj1 hj10 hj11 hj12 rfl (.slice (some ⟨q54, 0, none⟩) 0 0) 0 [] rfl O54.out _ zrs rfl (HOK.out _ K54.out.b).r.rowC (by have := HS1.out; unfold maxLen; omega) (by have := HS1.out; omega) (by have := K54.out.hi; omega) (fun v55 W55 o55 g55 => ?_)
            rw [Nat.zero_add, List.nil_append] at o55
            obtain ⟨x55, y55, rfl, -, -⟩ := own_shape o55
            have K55 := Lib.hid (K54.out.grown O54.out (Nat.lt_succ_self _) g55)
            have O55 := Lib.hid o55
            have P55_13 := Lib.hid (own_far2 P54_13.out O54.out (by decide) g55)
            clear o55 g55
            refine ⟨K55.out.c, ?_⟩
            go_frame
            refine h_all1 (i := 9) (by kernel_rfl) ?_
            refine o_step rfl (by rfl) ?_
            refine wp_empty 31 39 attC.m rfl Try.underlying31 j2 hj2 (fun q56 W56 o56 b56 => ?_)
            have K56 := Lib.hid (K55.out.below b56)
            have O56 := Lib.hid (owns_mono (B' := wr.heap.size + 1) o56 (by have := K55.out.hi; first | exact this | (simp only [World.size_drew] at *; exact this)))
            have P56_13 := Lib.hid (owns_below P55_13.out b56)
            have P56_8 := Lib.hid (owns_below O55.out b56)
            clear o56 b56
            refine ⟨K56.out.c, ?_⟩
            go_frame
            refine h_all1 (i := 12) (by kernel_rfl) ?_
            refine o_step rfl (by rfl) ?_
            refine wp_append_rowC (C := attC) (.tmp 25) (.tmp 27) 31 rfl (wr.heap.size + 1) 39 j2 (av noAtt) 48 Try.underlying31 hj2 hj20 hj21 hj22 rfl (.slice (some ⟨q56, 0, none⟩) 0 0) 0 [] rfl O56.out _ zst rfl (HOK.out _ K56.out.b).s (by have := HS2.out; unfold maxLen; omega) (by have := HS2.out; omega) (by have := K56.out.hi; omega) (fun v57 W57 o57 g57 => ?_)
            rw [Nat.zero_add, List.nil_append] at o57
            obtain ⟨x57, y57, rfl, -, -⟩ := own_shape o57
            have K57 := Lib.hid (K56.out.grown O56.out (Nat.lt_succ_self _) g57)
            have O57 := Lib.hid o57
            have P57_13 := Lib.hid (own_far2 P56_13.out O56.out (by decide) g57)
            have P57_8 := Lib.hid (own_far2 P56_8.out O56.out (by decide) g57)
            clear o57 g57
            refine ⟨K57.out.c, ?_⟩
            go_frame
            refine h_all1 (i := 16) (by kernel_rfl) ?_
            refine o_step rfl (by rfl) ?_
            refine wp_append_rowC (C := chC) (.tmp 29) (.tmp 31) 32 rfl (wr.heap.size + 1) 41 j3 (cv noChg) 56 Try.underlying32 hj3 hj30 hj31 hj32 rfl (.slice (some ⟨q53, 0, none⟩) 0 0) 0 [] rfl P57_13.out _ zpt rfl (HOK.out _ K57.out.b).p (by have := HS3.out; unfold maxLen; omega) (by have := HS3.out; omega) (by have := K57.out.hi; omega) (fun v58 W58 o58 g58 => ?_)
            rw [Nat.zero_add, List.nil_append] at o58
            obtain ⟨x58, y58, rfl, -, -⟩ := own_shape o58
            have K58 := Lib.hid (K57.out.grown P57_13.out (Nat.lt_succ_self _) g58)
            have O58 := Lib.hid o58
            have P58_8 := Lib.hid (own_far2 P57_8.out P57_13.out (by decide) g58)
            have P58_12 := Lib.hid (own_far2 O57.out P57_13.out (by decide) g58)
            clear o58 g58
            refine ⟨K58.out.c, ?_⟩
            go_frame
            refine h_val (i := 17) (v := .agg (opcs zk zn x55 zrs.length y55 x57 zst.length y57 x58 zpt.length y58)) rfl (by kernel_rfl) (by kernel_rfl) (by kernel_rfl) (fun _ _ _ h => h) (by rfl) (fun wz hS => ?_) K58.out.c ?_
            · skip
              go_simp
            go_frame
            refine h_all1 (i := 18) (by kernel_rfl) ?_
            refine o_step rfl (by rfl) ?_
            refine wp_do (v := .slice (some ⟨W58.heap.size, 0, none⟩) 1 1) (w' := W58.alloc (.cells (opcs zk zn x55 zrs.length y55 x57 zst.length y57 x58 zpt.length y58) 34)) (by go_simp) ?_
            have KB := Lib.hid (K58.out.below (kbelow_one W58 (.cells (opcs zk zn x55 zrs.length y55 x57 zst.length y57 x58 zpt.length y58) 34)))
            have HOW := Lib.hid (HROW.out _ KB.out.b)
            have HZO := Lib.hid (op_new (k := zk) (n := zn) (rs := zrs) (show World.ownsRow W58 _ 21 1 _ _ _ from by have := P58_8.out; rwa [fl_intC] at this) P58_12.out O58.out HWB.out (kbelow_one W58 (.cells (opcs zk zn x55 zrs.length y55 x57 zst.length y57 x58 zpt.length y58) 34)) (Nat.le_succ _) (Nat.le_succ _) (Nat.le_succ _))
            have HZN := Lib.hid (fun g (hg : (Value.slice x55 zrs.length y55).ownBlock = some g) => (Nat.le_of_succ_le (own_base P58_8.out hg) : wr.heap.size ≤ g))
            refine ⟨KB.out.c, ?_⟩
            go_frame
            refine h_all1 (i := 19) (by kernel_rfl) ?_
            refine o_step rfl (by rfl) ?_
            refine wp_append_lies _ (.tmp 16) (.tmp 34) 23 rfl 0 34 i0 _ 5 88 Try.underlying23 hi hz0 hz1 hz2 rfl (by decide) (.slice va k vc) k (fl ozC ys) rfl HOW.out ⟨W58.heap.size, 0, none⟩ 1 1 (ozC.c ⟨zk, zn, x55, y55, zrs, x57, y57, zst, x58, y58, zpt⟩) rfl rfl (World.news_of_block (heap_alloc_new _ _)) (ozC.one _) (by decide) (by unfold maxLen; omega) (by omega) (Nat.zero_le _) _ rfl ?_
            intro g cap w4 hown4 hgrow4 hat4 hlt4
            have NX := Lib.hid (HR.out.next rfl KB.out.b HZO.out HZN.out hgrow4 hown4 hat4 HYL.out (HEQ.out _ rfl))
            refine ⟨kept_box HR.out KB.out hgrow4, ?_⟩
            go_frame
            refine h_val (i := 20) (v := .slice (some ⟨g, 0, none⟩) (k + 1) cap) rfl (by kernel_rfl) (by kernel_rfl) (by kernel_rfl) (fun _ _ _ h => h) (by rfl) (fun wz hS => ?_) (kept_box HR.out KB.out hgrow4) ?_
            · skip
              go_simp
            go_frame
            refine h_done (by kernel_rfl) ?_
            go_wp2
            go_roundw
            case rel => exact ⟨k + 1, _, _, _, HLT.out, by rw [List.length_append, HYL.out]; rfl, rfl, by go_num, NX⟩
            case measure => have := HLT.out; simp [intOf]; omega
          · skip
            refine o_step rfl (by rfl) ?_
            refine wp_empty 31 39 attC.m rfl Try.underlying31 j2 hj2 (fun q59 W59 o59 b59 => ?_)
            have K59 := Lib.hid (K54.out.below b59)
            have O59 := Lib.hid (owns_mono (B' := wr.heap.size + 1) o59 (by have := K54.out.hi; first | exact this | (simp only [World.size_drew] at *; exact this)))
            have P59_13 := Lib.hid (owns_below P54_13.out b59)
            have P59_5 := Lib.hid (owns_below O54.out b59)
            clear o59 b59
            refine ⟨K59.out.c, ?_⟩
            go_frame
            refine h_all1 (i := 8) (by kernel_rfl) ?_
            refine o_step rfl (by rfl) ?_
            refine wp_append_rowC (C := intC) (.tmp 21) (.tmp 23) 30 rfl (wr.heap.size + 1) 21 j1 (.int .i32 0) 4 Try.underlying30 hj1 hj10 hj11 hj12 rfl (.slice (some ⟨q54, 0, none⟩) 0 0) 0 [] rfl P59_5.out _ zrs rfl (HOK.out _ K59.out.b).r.rowC (by have := HS1.out; unfold maxLen; omega) (by have := HS1.out; omega) (by have := K59.out.hi; omega) (fun v60 W60 o60 g60 => ?_)
            rw [Nat.zero_add, List.nil_append] at o60
            obtain ⟨x60, y60, rfl, -, -⟩ := own_shape o60
            have K60 := Lib.hid (K59.out.grown P59_5.out (Nat.lt_succ_self _) g60)
            have O60 := Lib.hid o60
            have P60_13 := Lib.hid (own_far2 P59_13.out P59_5.out (by decide) g60)
            have P60_9 := Lib.hid (own_far2 O59.out P59_5.out (by decide) g60)
            clear o60 g60
            refine ⟨K60.out.c, ?_⟩
            go_frame
            refine h_all1 (i := 12) (by kernel_rfl) ?_
            refine o_step rfl (by rfl) ?_
            refine wp_append_rowC (C := attC) (.tmp 25) (.tmp 27) 31 rfl (wr.heap.size + 1) 39 j2 (av noAtt) 48 Try.underlying31 hj2 hj20 hj21 hj22 rfl (.slice (some ⟨q59, 0, none⟩) 0 0) 0 [] rfl P60_9.out _ zst rfl (HOK.out _ K60.out.b).s (by have := HS2.out; unfold maxLen; omega) (by have := HS2.out; omega) (by have := K60.out.hi; omega) (fun v61 W61 o61 g61 => ?_)
            rw [Nat.zero_add, List.nil_append] at o61
            obtain ⟨x61, y61, rfl, -, -⟩ := own_shape o61
            have K61 := Lib.hid (K60.out.grown P60_9.out (Nat.lt_succ_self _) g61)
            have O61 := Lib.hid o61
            have P61_13 := Lib.hid (own_far2 P60_13.out P60_9.out (by decide) g61)
            have P61_8 := Lib.hid (own_far2 O60.out P60_9.out (by decide) g61)
            clear o61 g61
            refine ⟨K61.out.c, ?_⟩
            go_frame
            refine h_all1 (i := 16) (by kernel_rfl) ?_
            refine o_step rfl (by rfl) ?_
            refine wp_append_rowC (C := chC) (.tmp 29) (.tmp 31) 32 rfl (wr.heap.size + 1) 41 j3 (cv noChg) 56 Try.underlying32 hj3 hj30 hj31 hj32 rfl (.slice (some ⟨q53, 0, none⟩) 0 0) 0 [] rfl P61_13.out _ zpt rfl (HOK.out _ K61.out.b).p (by have := HS3.out; unfold maxLen; omega) (by have := HS3.out; omega) (by have := K61.out.hi; omega) (fun v62 W62 o62 g62 => ?_)
            rw [Nat.zero_add, List.nil_append] at o62
            obtain ⟨x62, y62, rfl, -, -⟩ := own_shape o62
            have K62 := Lib.hid (K61.out.grown P61_13.out (Nat.lt_succ_self _) g62)
            have O62 := Lib.hid o62
            have P62_8 := Lib.hid (own_far2 P61_8.out P61_13.out (by decide) g62)
            have P62_12 := Lib.hid (own_far2 O61.out P61_13.out (by decide) g62)
            clear o62 g62
            refine ⟨K62.out.c, ?_⟩
            go_frame
            refine h_val (i := 17) (v := .agg (opcs zk zn x60 zrs.length y60 x61 zst.length y61 x62 zpt.length y62)) rfl (by kernel_rfl) (by kernel_rfl) (by kernel_rfl) (fun _ _ _ h => h) (by rfl) (fun wz hS => ?_) K62.out.c ?_
            · skip
              go_simp
            go_frame
            refine h_all1 (i := 18) (by kernel_rfl) ?_
            refine o_step rfl (by rfl) ?_
            refine wp_do (v := .slice (some ⟨W62.heap.size, 0, none⟩) 1 1) (w' := W62.alloc (.cells (opcs zk zn x60 zrs.length y60 x61 zst.length y61 x62 zpt.length y62) 34)) (by go_simp) ?_
            have KB := Lib.hid (K62.out.below (kbelow_one W62 (.cells (opcs zk zn x60 zrs.length y60 x61 zst.length y61 x62 zpt.length y62) 34)))
            have HOW := Lib.hid (HROW.out _ KB.out.b)
            have HZO := Lib.hid (op_new (k := zk) (n := zn) (rs := zrs) (show World.ownsRow W62 _ 21 1 _ _ _ from by have := P62_8.out; rwa [fl_intC] at this) P62_12.out O62.out HWB.out (kbelow_one W62 (.cells (opcs zk zn x60 zrs.length y60 x61 zst.length y61 x62 zpt.length y62) 34)) (Nat.le_succ _) (Nat.le_succ _) (Nat.le_succ _))
            have HZN := Lib.hid (fun g (hg : (Value.slice x60 zrs.length y60).ownBlock = some g) => (Nat.le_of_succ_le (own_base P62_8.out hg) : wr.heap.size ≤ g))
            refine ⟨KB.out.c, ?_⟩
            go_frame
            refine h_all1 (i := 19) (by kernel_rfl) ?_
            refine o_step rfl (by rfl) ?_
            refine wp_append_lies _ (.tmp 16) (.tmp 34) 23 rfl 0 34 i0 _ 5 88 Try.underlying23 hi hz0 hz1 hz2 rfl (by decide) (.slice va k vc) k (fl ozC ys) rfl HOW.out ⟨W62.heap.size, 0, none⟩ 1 1 (ozC.c ⟨zk, zn, x60, y60, zrs, x61, y61, zst, x62, y62, zpt⟩) rfl rfl (World.news_of_block (heap_alloc_new _ _)) (ozC.one _) (by decide) (by unfold maxLen; omega) (by omega) (Nat.zero_le _) _ rfl ?_
            intro g cap w4 hown4 hgrow4 hat4 hlt4
            have NX := Lib.hid (HR.out.next rfl KB.out.b HZO.out HZN.out hgrow4 hown4 hat4 HYL.out (HEQ.out _ rfl))
            refine ⟨kept_box HR.out KB.out hgrow4, ?_⟩
            go_frame
            refine h_val (i := 20) (v := .slice (some ⟨g, 0, none⟩) (k + 1) cap) rfl (by kernel_rfl) (by kernel_rfl) (by kernel_rfl) (fun _ _ _ h => h) (by rfl) (fun wz hS => ?_) (kept_box HR.out KB.out hgrow4) ?_
            · skip
              go_simp
            go_frame
            refine h_done (by kernel_rfl) ?_
            go_wp2
            go_roundw
            case rel => exact ⟨k + 1, _, _, _, HLT.out, by rw [List.length_append, HYL.out]; rfl, rfl, by go_num, NX⟩
            case measure => have := HLT.out; simp [intOf]; omega
        · skip
          refine o_step rfl (by rfl) ?_
          refine wp_empty 31 39 attC.m rfl Try.underlying31 j2 hj2 (fun q63 W63 o63 b63 => ?_)
          have K63 := Lib.hid (K53.out.below b63)
          have O63 := Lib.hid (owns_mono (B' := wr.heap.size + 1) o63 (by have := K53.out.hi; first | exact this | (simp only [World.size_drew] at *; exact this)))
          have P63_13 := Lib.hid (owns_below O53.out b63)
          clear o63 b63
          refine ⟨K63.out.c, ?_⟩
          go_frame
          refine h_all1 (i := 5) (by kernel_rfl) ?_
          refine o_step rfl (by rfl) ?_
          refine wp_empty 30 21 intC.m rfl Try.underlying30 j1 hj1 (fun q64 W64 o64 b64 => ?_)
          have K64 := Lib.hid (K63.out.below b64)
          have O64 := Lib.hid (owns_mono (B' := wr.heap.size + 1) o64 (by have := K63.out.hi; first | exact this | (simp only [World.size_drew] at *; exact this)))
          have P64_13 := Lib.hid (owns_below P63_13.out b64)
          have P64_9 := Lib.hid (owns_below O63.out b64)
          clear o64 b64
          refine ⟨K64.out.c, ?_⟩
          go_frame
          refine h_all1 (i := 8) (by kernel_rfl) ?_
          refine o_step rfl (by rfl) ?_
          refine wp_append_rowC (C := intC) (.tmp 21) (.tmp 23) 30 rfl (wr.heap.size + 1) 21 j1 (.int .i32 0) 4 Try.underlying30 hj1 hj10 hj11 hj12 rfl (.slice (some ⟨q64, 0, none⟩) 0 0) 0 [] rfl O64.out _ zrs rfl (HOK.out _ K64.out.b).r.rowC (by have := HS1.out; unfold maxLen; omega) (by have := HS1.out; omega) (by have := K64.out.hi; omega) (fun v65 W65 o65 g65 => ?_)
          rw [Nat.zero_add, List.nil_append] at o65
          obtain ⟨x65, y65, rfl, -, -⟩ := own_shape o65
          have K65 := Lib.hid (K64.out.grown O64.out (Nat.lt_succ_self _) g65)
          have O65 := Lib.hid o65
          have P65_13 := Lib.hid (own_far2 P64_13.out O64.out (by decide) g65)
          have P65_9 := Lib.hid (own_far2 P64_9.out O64.out (by decide) g65)
          clear o65 g65
          refine ⟨K65.out.c, ?_⟩
          go_frame
          refine h_all1 (i := 12) (by kernel_rfl) ?_
          refine o_step rfl (by rfl) ?_
          refine wp_append_rowC (C := attC) (.tmp 25) (.tmp 27) 31 rfl (wr.heap.size + 1) 39 j2 (av noAtt) 48 Try.underlying31 hj2 hj20 hj21 hj22 rfl (.slice (some ⟨q63, 0, none⟩) 0 0) 0 [] rfl P65_9.out _ zst rfl (HOK.out _ K65.out.b).s (by have := HS2.out; unfold maxLen; omega) (by have := HS2.out; omega) (by have := K65.out.hi; omega) (fun v66 W66 o66 g66 => ?_)
          rw [Nat.zero_add, List.nil_append] at o66
          obtain ⟨x66, y66, rfl, -, -⟩ := own_shape o66
          have K66 := Lib.hid (K65.out.grown P65_9.out (Nat.lt_succ_self _) g66)
          have O66 := Lib.hid o66
          have P66_13 := Lib.hid (own_far2 P65_13.out P65_9.out (by decide) g66)
          have P66_8 := Lib.hid (own_far2 O65.out P65_9.out (by decide) g66)
          clear o66 g66
          refine ⟨K66.out.c, ?_⟩
          go_frame
          refine h_all1 (i := 16) (by kernel_rfl) ?_
          refine o_step rfl (by rfl) ?_
          refine wp_append_rowC (C := chC) (.tmp 29) (.tmp 31) 32 rfl (wr.heap.size + 1) 41 j3 (cv noChg) 56 Try.underlying32 hj3 hj30 hj31 hj32 rfl (.slice (some ⟨q53, 0, none⟩) 0 0) 0 [] rfl P66_13.out _ zpt rfl (HOK.out _ K66.out.b).p (by have := HS3.out; unfold maxLen; omega) (by have := HS3.out; omega) (by have := K66.out.hi; omega) (fun v67 W67 o67 g67 => ?_)
          rw [Nat.zero_add, List.nil_append] at o67
          obtain ⟨x67, y67, rfl, -, -⟩ := own_shape o67
          have K67 := Lib.hid (K66.out.grown P66_13.out (Nat.lt_succ_self _) g67)
          have O67 := Lib.hid o67
          have P67_8 := Lib.hid (own_far2 P66_8.out P66_13.out (by decide) g67)
          have P67_12 := Lib.hid (own_far2 O66.out P66_13.out (by decide) g67)
          clear o67 g67
          refine ⟨K67.out.c, ?_⟩
          go_frame
          refine h_val (i := 17) (v := .agg (opcs zk zn x65 zrs.length y65 x66 zst.length y66 x67 zpt.length y67)) rfl (by kernel_rfl) (by kernel_rfl) (by kernel_rfl) (fun _ _ _ h => h) (by rfl) (fun wz hS => ?_) K67.out.c ?_
          · skip
            go_simp
          go_frame
          refine h_all1 (i := 18) (by kernel_rfl) ?_
          refine o_step rfl (by rfl) ?_
          refine wp_do (v := .slice (some ⟨W67.heap.size, 0, none⟩) 1 1) (w' := W67.alloc (.cells (opcs zk zn x65 zrs.length y65 x66 zst.length y66 x67 zpt.length y67) 34)) (by go_simp) ?_
          have KB := Lib.hid (K67.out.below (kbelow_one W67 (.cells (opcs zk zn x65 zrs.length y65 x66 zst.length y66 x67 zpt.length y67) 34)))
          have HOW := Lib.hid (HROW.out _ KB.out.b)
          have HZO := Lib.hid (op_new (k := zk) (n := zn) (rs := zrs) (show World.ownsRow W67 _ 21 1 _ _ _ from by have := P67_8.out; rwa [fl_intC] at this) P67_12.out O67.out HWB.out (kbelow_one W67 (.cells (opcs zk zn x65 zrs.length y65 x66 zst.length y66 x67 zpt.length y67) 34)) (Nat.le_succ _) (Nat.le_succ _) (Nat.le_succ _))
          have HZN := Lib.hid (fun g (hg : (Value.slice x65 zrs.length y65).ownBlock = some g) => (Nat.le_of_succ_le (own_base P67_8.out hg) : wr.heap.size ≤ g))
          refine ⟨KB.out.c, ?_⟩
          go_frame
          refine h_all1 (i := 19) (by kernel_rfl) ?_
          refine o_step rfl (by rfl) ?_
          refine wp_append_lies _ (.tmp 16) (.tmp 34) 23 rfl 0 34 i0 _ 5 88 Try.underlying23 hi hz0 hz1 hz2 rfl (by decide) (.slice va k vc) k (fl ozC ys) rfl HOW.out ⟨W67.heap.size, 0, none⟩ 1 1 (ozC.c ⟨zk, zn, x65, y65, zrs, x66, y66, zst, x67, y67, zpt⟩) rfl rfl (World.news_of_block (heap_alloc_new _ _)) (ozC.one _) (by decide) (by unfold maxLen; omega) (by omega) (Nat.zero_le _) _ rfl ?_
          intro g cap w4 hown4 hgrow4 hat4 hlt4
          have NX := Lib.hid (HR.out.next rfl KB.out.b HZO.out HZN.out hgrow4 hown4 hat4 HYL.out (HEQ.out _ rfl))
          refine ⟨kept_box HR.out KB.out hgrow4, ?_⟩
          go_frame
          refine h_val (i := 20) (v := .slice (some ⟨g, 0, none⟩) (k + 1) cap) rfl (by kernel_rfl) (by kernel_rfl) (by kernel_rfl) (fun _ _ _ h => h) (by rfl) (fun wz hS => ?_) (kept_box HR.out KB.out hgrow4) ?_
          · skip
            go_simp
          go_frame
          refine h_done (by kernel_rfl) ?_
          go_wp2
          go_roundw
          case rel => exact ⟨k + 1, _, _, _, HLT.out, by rw [List.length_append, HYL.out]; rfl, rfl, by go_num, NX⟩
          case measure => have := HLT.out; simp [intOf]; omega
    · obtain rfl : k = zs.length := by omega
      go_wp2
      go_ret
      have hq := HR.out.eq
      rw [List.take_length] at hq
      exact ⟨_, ys, rfl, hq, HR.out.own, HR.out.bel⟩
end Go.Proofs.Ytnggnfhaokkcmaa
