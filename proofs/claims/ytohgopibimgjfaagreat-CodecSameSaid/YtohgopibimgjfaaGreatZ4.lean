import Derived.Test.YtohgopibimgjfaaGreatZ3
import Derived.Maps.RangeWalk
import Derived.Laws.CopyRow
import Derived.Lib.AppendZerosOnto
import Derived.Lib.Overlaps
import Derived.Laws.NewBlocks
import Derived.Laws.IdiomCopy
import Derived.Shelf.RegionOpenPlain
/- N9: the reference's Copy -/
namespace Go.Proofs.YtohgopibimgjfaaGreat
open Go.RowKit
set_option linter.unusedVariables false
set_option maxRecDepth 100000

/-- append(out, src...) as one operation: out the call's own, src whatever slice, nil too. -/
theorem wp_append_rowC {α : Type} {C : Cel α} {P : Program} {w : World} {o : Oper} {a : Act} {K : Act → World → Prop} {Q : Exit → Act → World → Prop} (s x : Operand) (t : TypeId)
    (ho : o.op = .call { callee := .builtin .append, args := #[s, x], argTypes := #[t, t] })
    (base : Nat) (e : TypeId) (i : TypeInfo) (z : Value) (bytes : Nat) (ht : P.underlying t = some (.slice e)) (hi : P.info? e = some i) (hz : i.zero = some z)
    (hsize : i.size = C.m) (hby : i.bytes = bytes) (hzs : z.cells.size = C.m)
    (v : Value) (n : Nat) (cs : List Value) (hs : a.eval s = v) (hown : w.ownsRow base e C.m v n cs)
    (u : Value) (ys : List α) (hx : a.eval x = u) (hu : Row C w u ys)
    (h63 : n + ys.length ≤ maxLen) (hbytes : (n + ys.length) * bytes ≤ 140737488355328) (hbase : base ≤ w.heap.size)
    (h : ∀ v' w', w'.ownsRow base e C.m v' (n + ys.length) (cs ++ fl C ys) → w.grownBy w' v.ownBlock → K (a.put o.dst v') w') : o.wp P a w K Q := by
  rcases hu with ⟨ad, cap, rfl, rfl, hm, hc0⟩ | ⟨b, off, cap, rfl, h0, h1, hm, hc⟩
  · cases ad with
    | none =>
      obtain rfl := hc0 rfl
      have hrun := run_append_owned_none (P := P) (w := w) base t o.type e i C.m ht hi v n cs hown
      unfold Oper.wp
      simp [execOp, ho, resolve, invoke, builtin, hs, hx, hrun, Result.andThen]
      exact h v w (by simpa [fl_nil] using hown) (grown_refl _ _)
    | some ad =>
      exact wp_append_own w s x t ho base e i z C.m bytes ht hi hz hsize hby hzs C.pos v n cs hs hown ad 0 cap [] hx (by simp) (by intro j u hj; simp at hj) (by intro u hu; cases hu) h63 hbytes hbase (fun v' w' q1 q2 _ => h v' w' (by simpa [fl_nil] using q1) q2)
  · refine wp_append_own w s x t ho base e i z C.m bytes ht hi hz hsize hby hzs C.pos v n cs hs hown ⟨b, off, none⟩ ys.length cap (fl C ys) hx (fl_len C ys) ?_ (fl_ones C ys) h63 hbytes hbase (fun v' w' q1 q2 _ => h v' w' q1 q2)
    intro j u hj
    rw [Go.WideShapes.add_plain]
    exact hc j u hj
/-- T{} as one operation. -/
theorem wp_empty {P : Program} {o : Oper} {a : Act} {w : World} {K : Act → World → Prop} {Q : Exit → Act → World → Prop} (t e : TypeId) (m : Nat) (ho : o.op = .buildSlice t 0 #[]) (hu : P.underlying t = some (.slice e)) (ie : TypeInfo) (hie : P.info? e = some ie)
    (h : ∀ q W', W'.ownsRow w.heap.size e m (.slice (some ⟨q, 0, none⟩) 0 0) 0 [] → Below w.heap.size w W' → K (a.put o.dst (.slice (some ⟨q, 0, none⟩) 0 0)) W') : o.wp P a w K Q := by
  have hrun : (execOp a.eval o).run P w = .ok (.value (.slice (some ⟨w.heap.size, 0, none⟩) 0 0)) (w.alloc (.cells #[] e)) := by
    have e0 : Array.range 0 = #[] := by simp [Array.range]
    simp [execOp, ho, Instr.buildSlice, run_underlying hu, sizeOf, typeInfo, hie, newRow, Instr.fill, e0]
  unfold Oper.wp
  rw [hrun]
  exact h _ _ (owns_none w e m) (kbelow_one w _)
theorem wp_do {P : Program} {op : Oper} {a : Act} {w w' : World} {v : Value} {K : Act → World → Prop} {Q : Exit → Act → World → Prop} (hv : (execOp a.eval op).run P w = .ok (.value v) w') (h : K (a.put op.dst v) w') : op.wp P a w K Q := by
  unfold Oper.wp
  rw [hv]
  exact h
theorem Ints.rowC {w : World} {v : Value} {xs : List Int} (h : Ints .i32 w v xs) : Row intC w v xs := by
  rcases h with h | ⟨b, off, cap, hv, h0, h1, h2, h3⟩
  · exact .inl h
  · refine .inr ⟨b, off, cap, hv, h0, h1, h2, fun j u hu => ?_⟩
    rw [fl_intC] at hu
    have hj : j < xs.length := by have := (List.getElem?_eq_some_iff.1 hu).1; simpa using this
    rw [h3 j hj, ← hu]
    simp [List.getD, hj]
theorem own_far2 {w w' : World} {B B' : Nat} {e e' : TypeId} {s s' n n' : Nat} {u u' : Value} {xs ys : List Value} (h : w.ownsRow B e s u n xs) (h' : w.ownsRow B' e' s' u' n' ys) (hne : e ≠ e') (hg : w.grownBy w' u'.ownBlock) : w'.ownsRow B e s u n xs :=
  owns_kept h fun g hgb => hg.block g (own_lt7 h hgb) (fun e => tag_ne h h' hne hgb e.symm)
/-- What stays while an op is copied. -/
structure CK (wr : World) (z : Oz) (W : World) : Prop where
  c : OAt wr.heap.size 0 z W
  b : Below wr.heap.size wr W
  hi : wr.heap.size < W.heap.size
theorem CK.below {wr W W' : World} {z : Oz} (h : CK wr z W) (hb : Below W.heap.size W W') : CK wr z W' := ⟨h.c.below hb, below_add h.b hb h.b.size, Nat.lt_of_lt_of_le h.hi hb.size⟩
theorem CK.grown {wr W W' : World} {z : Oz} {B n m : Nat} {e : TypeId} {v : Value} {xs : List Value} (h : CK wr z W) (ho : W.ownsRow B e m v n xs) (hB : wr.heap.size < B) (hg : W.grownBy W' v.ownBlock) : CK wr z W' := by
  have hv : ∀ g, v.ownBlock = some g → wr.heap.size < g := fun g hgb => by have := own_base ho hgb; omega
  exact ⟨h.c.off (Off.of_grown (S := fun k => v.ownBlock = some k) hg (fun g hg => hg)) (fun hh => by have := hv _ hh; omega), h.b.grown hg h.b.size (fun g hgb => by have := hv g hgb; omega), Nat.lt_of_lt_of_le h.hi hg.size⟩
theorem CK.start (wr : World) (z : Oz) : CK wr z (wr.alloc (.cells z.cs 56)).drew := ⟨(OAt.new wr z _).below (Below.refl _ _).drew, (kbelow_one wr _).drew, by simp⟩

/-- The row's growth leaves the op's own variable as it was. -/
theorem kept_box {B : Nat} {w wr W w' : World} {zs ys : List Oz} {k : Nat} {v : Value} {z : Oz} (h : CpR B w zs k v wr ys) (hk : CK wr z W) (hg : W.grownBy w' v.ownBlock) : OAt wr.heap.size 0 z w' :=
  hk.c.off (Off.of_grown (S := fun j => v.ownBlock = some j) hg (fun g hg => hg)) (fun hh => by have := own_lt7 h.own.row hh; omega)

set_option maxHeartbeats 16000000 in
theorem rocopy_any (u : Value) (zs : List Oz) (w : World) (hu : Orow w u zs) (hl : zs.length ≤ 50331648) (hz : ∀ z ∈ zs, Sm z) :
    Calls Tryz.prog 11 #[u] w fun e w' => ∃ v ys, e = .returned v ∧ ys.map Oz.o = zs.map Oz.o ∧ Oown (fun g => w.heap.size ≤ g) w' v ys ∧ Below w.heap.size w w' := by
  obtain ⟨i0, hi, hz0, hz1, hz2⟩ := info_op
  obtain ⟨j1, hj1, hj10, hj11, hj12⟩ := info_i32
  obtain ⟨j2, hj2, hj20, hj21, hj22⟩ := info_at
  obtain ⟨j3, hj3, hj30, hj31, hj32⟩ := info_ch
  have HU := Lib.hid hu
  obtain ⟨a1, cap1, rfl⟩ := hu.shape
  have HS := Lib.hid (show CpR w.heap.size w zs 0 (.slice none 0 0) w [] from ⟨Oown.nil _ _, rfl, Below.refl _ _, Nat.le_refl _⟩)
  go_enter Tryz.func11, Tryz.ntmps11
  go_wp2
  go_loopw [3, 4] (fun s3 s4 wr => ∃ (k : Nat) (a : Option Addr) (c : Nat) (ys : List Oz), k ≤ zs.length ∧ ys.length = k ∧ s3 = .slice a k c ∧ s4 = .int .i64 k ∧ Hid (CpR w.heap.size w zs k (.slice a k c) wr ys)) (fun _ s4 _ => zs.length - (intOf s4).toNat)
  case atStart => exact ⟨0, _, _, [], Nat.zero_le _, rfl, rfl, rfl, HS⟩
  case round =>
    clear HS
    obtain ⟨k, va, vc, ys, hk, hyl, rfl, rfl, HR⟩ := hrel
    by_cases hlt : k < zs.length
    · have hlt1 : 0 < zs.length := by omega
      obtain ⟨b1, o1, rfl, -, -, -, -, hat⟩ := HU.out.row.ats hlt1
      have hoat := (hat k hlt).below HR.out.bel
      have hok := (HU.out.ok _ (List.getElem_mem hlt)).below HR.out.bel
      have hsm := hz _ (List.getElem_mem hlt)
      have HEQ := Lib.hid (show ∀ y : Oz, y.o = zs[k].o → (ys ++ [y]).map Oz.o = (zs.take (k + 1)).map Oz.o from fun y he => by rw [tsnoc hlt, List.map_append, List.map_append, HR.out.eq, List.map_singleton, List.map_singleton, he])
      clear hat hu
      generalize zs[k] = z at *
      have HLT := Lib.hid hlt
      have hwb : w.heap.size ≤ wr.heap.size := HR.out.hi
      have HOK := Lib.hid (fun W (hb : Below wr.heap.size wr W) => hok.below hb)
      have K0 := Lib.hid (CK.start wr z)
      have hs1 := hsm.r
      have hs2 := hsm.s
      have hs3 := hsm.p
      have HYL := Lib.hid hyl
      have HWB := Lib.hid hwb
      have HROW := Lib.hid (fun W (hb : Below wr.heap.size wr W) => (show W.ownsRow 0 56 5 (.slice va k vc) k (fl ozC ys) from by have := (HR.out.own.below hb).row; rwa [hyl] at this))
      obtain ⟨zk, zn, zra, zrc, zrs, zsa, zsc, zst, zpa, zpc, zpt⟩ := z
      obtain ⟨c0, c1, c2, c3, c4⟩ := hoat
      simp only at hs1 hs2 hs3 c0 c1 c2 c3 c4
      have HS1 := Lib.hid hs1
      have HS2 := Lib.hid hs2
      have HS3 := Lib.hid hs3
      clear hok hsm hyl hwb hz hlt1 hs1 hs2 hs3
      go_upto_region 6 with fail

      refine h_start (S := (fun W => OAt wr.heap.size 0 ⟨zk, zn, zra, zrc, zrs, zsa, zsc, zst, zpa, zpc, zpt⟩ W)) (by kernel_rfl) ?_
      refine h_val (i := 0) (v := .slice va k vc) rfl (by kernel_rfl) (by kernel_rfl) (by kernel_rfl) (fun _ _ _ h => h) (by rfl) (fun wz hS => ?_) K0.out.c ?_
      · skip
        go_simp
      go_frame
      refine h_val (i := 1) (v := .pointer (some ⟨wr.heap.size, 0, none⟩)) rfl (by kernel_rfl) (by kernel_rfl) (by kernel_rfl) (fun _ _ _ h => h) (by rfl) (fun wz hS => ?_) K0.out.c ?_
      · skip
        go_simp
      go_frame
      refine h_val (i := 2) (v := .int .u8 zk) rfl (by kernel_rfl) (by kernel_rfl) (by kernel_rfl) (fun _ _ _ h => h) (by rfl) (fun wz hS => ?_) K0.out.c ?_
      · have q0 : wz.cell? ⟨wr.heap.size, 0, none⟩ = some (.int .u8 zk) := hS.1
        go_simp
      go_frame
      refine h_val (i := 3) (v := .pointer (some ⟨wr.heap.size, 1, none⟩)) rfl (by kernel_rfl) (by kernel_rfl) (by kernel_rfl) (fun _ _ _ h => h) (by rfl) (fun wz hS => ?_) K0.out.c ?_
      · skip
        go_simp
      go_frame
      refine h_val (i := 4) (v := .int .i64 zn) rfl (by kernel_rfl) (by kernel_rfl) (by kernel_rfl) (fun _ _ _ h => h) (by rfl) (fun wz hS => ?_) K0.out.c ?_
      · have q0 : wz.cell? ⟨wr.heap.size, 1, none⟩ = some (.int .i64 zn) := hS.2.1
        go_simp
      go_frame
      refine h_val (i := 6) (v := .pointer (some ⟨wr.heap.size, 2, none⟩)) rfl (by kernel_rfl) (by kernel_rfl) (by kernel_rfl) (fun _ _ _ h => h) (by rfl) (fun wz hS => ?_) K0.out.c ?_
      · skip
        go_simp
      go_frame
      refine h_val (i := 7) (v := .slice zra zrs.length zrc) rfl (by kernel_rfl) (by kernel_rfl) (by kernel_rfl) (fun _ _ _ h => h) (by rfl) (fun wz hS => ?_) K0.out.c ?_
      · have q0 : wz.cell? ⟨wr.heap.size, 2, none⟩ = some (.slice zra zrs.length zrc) := hS.2.2.1
        go_simp
      go_frame
      refine h_val (i := 10) (v := .pointer (some ⟨wr.heap.size, 3, none⟩)) rfl (by kernel_rfl) (by kernel_rfl) (by kernel_rfl) (fun _ _ _ h => h) (by rfl) (fun wz hS => ?_) K0.out.c ?_
      · skip
        go_simp
      go_frame
      refine h_val (i := 11) (v := .slice zsa zst.length zsc) rfl (by kernel_rfl) (by kernel_rfl) (by kernel_rfl) (fun _ _ _ h => h) (by rfl) (fun wz hS => ?_) K0.out.c ?_
      · have q0 : wz.cell? ⟨wr.heap.size, 3, none⟩ = some (.slice zsa zst.length zsc) := hS.2.2.2.1
        go_simp
      go_frame
      refine h_val (i := 14) (v := .pointer (some ⟨wr.heap.size, 4, none⟩)) rfl (by kernel_rfl) (by kernel_rfl) (by kernel_rfl) (fun _ _ _ h => h) (by rfl) (fun wz hS => ?_) K0.out.c ?_
      · skip
        go_simp
      go_frame
      refine h_val (i := 15) (v := .slice zpa zpt.length zpc) rfl (by kernel_rfl) (by kernel_rfl) (by kernel_rfl) (fun _ _ _ h => h) (by rfl) (fun wz hS => ?_) K0.out.c ?_
      · have q0 : wz.cell? ⟨wr.heap.size, 4, none⟩ = some (.slice zpa zpt.length zpc) := hS.2.2.2.2
        go_simp
      go_frame
      refine h_all3 (i := 5) (j := 9) (k := 13) (by kernel_rfl) ?_ ?_ ?_
      · skip
        refine o_step rfl (by rfl) ?_
        refine wp_empty 52 21 intC.m rfl Tryz.underlying52 j1 hj1 (fun q1 W1 o1 b1 => ?_)
        have K1 := Lib.hid (K0.out.below b1)
        have O1 := Lib.hid (owns_mono (B' := wr.heap.size + 1) o1 (by have := K0.out.hi; first | exact this | (simp only [World.size_drew] at *; exact this)))
        clear o1 b1
        refine ⟨K1.out.c, ?_⟩
        go_frame
        refine h_all3 (i := 8) (j := 9) (k := 13) (by kernel_rfl) ?_ ?_ ?_
        · skip
          refine o_step rfl (by rfl) ?_
          refine wp_append_rowC (C := intC) (.tmp 21) (.tmp 23) 52 rfl (wr.heap.size + 1) 21 j1 (.int .i32 0) 4 Tryz.underlying52 hj1 hj10 hj11 hj12 rfl (.slice (some ⟨q1, 0, none⟩) 0 0) 0 [] rfl O1.out _ zrs rfl (HOK.out _ K1.out.b).r.rowC (by have := HS1.out; unfold maxLen; omega) (by have := HS1.out; omega) (by have := K1.out.hi; omega) (fun v2 W2 o2 g2 => ?_)
          rw [Nat.zero_add, List.nil_append] at o2
          obtain ⟨x2, y2, rfl, -, -⟩ := own_shape o2
          have K2 := Lib.hid (K1.out.grown O1.out (Nat.lt_succ_self _) g2)
          have O2 := Lib.hid o2
          clear o2 g2
          refine ⟨K2.out.c, ?_⟩
          go_frame
          refine h_all2 (i := 9) (j := 13) (by kernel_rfl) ?_ ?_
          · skip
            refine o_step rfl (by rfl) ?_
            refine wp_empty 53 61 attC.m rfl Tryz.underlying53 j2 hj2 (fun q3 W3 o3 b3 => ?_)
            have K3 := Lib.hid (K2.out.below b3)
            have O3 := Lib.hid (owns_mono (B' := wr.heap.size + 1) o3 (by have := K2.out.hi; first | exact this | (simp only [World.size_drew] at *; exact this)))
            have P3_8 := Lib.hid (owns_below O2.out b3)
            clear o3 b3
            refine ⟨K3.out.c, ?_⟩
            go_frame
            refine h_all2 (i := 12) (j := 13) (by kernel_rfl) ?_ ?_
            · skip
              refine o_step rfl (by rfl) ?_
              refine wp_append_rowC (C := attC) (.tmp 25) (.tmp 27) 53 rfl (wr.heap.size + 1) 61 j2 (av noAtt) 48 Tryz.underlying53 hj2 hj20 hj21 hj22 rfl (.slice (some ⟨q3, 0, none⟩) 0 0) 0 [] rfl O3.out _ zst rfl (HOK.out _ K3.out.b).s (by have := HS2.out; unfold maxLen; omega) (by have := HS2.out; omega) (by have := K3.out.hi; omega) (fun v4 W4 o4 g4 => ?_)
              rw [Nat.zero_add, List.nil_append] at o4
              obtain ⟨x4, y4, rfl, -, -⟩ := own_shape o4
              have K4 := Lib.hid (K3.out.grown O3.out (Nat.lt_succ_self _) g4)
              have O4 := Lib.hid o4
              have P4_8 := Lib.hid (own_far2 P3_8.out O3.out (by decide) g4)
              clear o4 g4
              refine ⟨K4.out.c, ?_⟩
              go_frame
              refine h_all1 (i := 13) (by kernel_rfl) ?_
              refine o_step rfl (by rfl) ?_
              refine wp_empty 54 63 chC.m rfl Tryz.underlying54 j3 hj3 (fun q5 W5 o5 b5 => ?_)
              have K5 := Lib.hid (K4.out.below b5)
              have O5 := Lib.hid (owns_mono (B' := wr.heap.size + 1) o5 (by have := K4.out.hi; first | exact this | (simp only [World.size_drew] at *; exact this)))
              have P5_8 := Lib.hid (owns_below P4_8.out b5)
              have P5_12 := Lib.hid (owns_below O4.out b5)
              clear o5 b5
              refine ⟨K5.out.c, ?_⟩
              go_frame
              refine h_all1 (i := 16) (by kernel_rfl) ?_
              refine o_step rfl (by rfl) ?_
              refine wp_append_rowC (C := chC) (.tmp 29) (.tmp 31) 54 rfl (wr.heap.size + 1) 63 j3 (cv noChg) 56 Tryz.underlying54 hj3 hj30 hj31 hj32 rfl (.slice (some ⟨q5, 0, none⟩) 0 0) 0 [] rfl O5.out _ zpt rfl (HOK.out _ K5.out.b).p (by have := HS3.out; unfold maxLen; omega) (by have := HS3.out; omega) (by have := K5.out.hi; omega) (fun v6 W6 o6 g6 => ?_)
              rw [Nat.zero_add, List.nil_append] at o6
              obtain ⟨x6, y6, rfl, -, -⟩ := own_shape o6
              have K6 := Lib.hid (K5.out.grown O5.out (Nat.lt_succ_self _) g6)
              have O6 := Lib.hid o6
              have P6_8 := Lib.hid (own_far2 P5_8.out O5.out (by decide) g6)
              have P6_12 := Lib.hid (own_far2 P5_12.out O5.out (by decide) g6)
              clear o6 g6
              refine ⟨K6.out.c, ?_⟩
              go_frame
              refine h_val (i := 17) (v := .agg (opcs zk zn x2 zrs.length y2 x4 zst.length y4 x6 zpt.length y6)) rfl (by kernel_rfl) (by kernel_rfl) (by kernel_rfl) (fun _ _ _ h => h) (by rfl) (fun wz hS => ?_) K6.out.c ?_
              · skip
                go_simp
              go_frame
              refine h_all1 (i := 18) (by kernel_rfl) ?_
              refine o_step rfl (by rfl) ?_
              refine wp_do (v := .slice (some ⟨W6.heap.size, 0, none⟩) 1 1) (w' := W6.alloc (.cells (opcs zk zn x2 zrs.length y2 x4 zst.length y4 x6 zpt.length y6) 56)) (by go_simp) ?_
              have KB := Lib.hid (K6.out.below (kbelow_one W6 (.cells (opcs zk zn x2 zrs.length y2 x4 zst.length y4 x6 zpt.length y6) 56)))
              have HOW := Lib.hid (HROW.out _ KB.out.b)
              have HZO := Lib.hid (op_new (k := zk) (n := zn) (rs := zrs) (show World.ownsRow W6 _ 21 1 _ _ _ from by have := P6_8.out; rwa [fl_intC] at this) P6_12.out O6.out HWB.out (kbelow_one W6 (.cells (opcs zk zn x2 zrs.length y2 x4 zst.length y4 x6 zpt.length y6) 56)) (Nat.le_succ _) (Nat.le_succ _) (Nat.le_succ _))
              have HZN := Lib.hid (fun g (hg : (Value.slice x2 zrs.length y2).ownBlock = some g) => (Nat.le_of_succ_le (own_base P6_8.out hg) : wr.heap.size ≤ g))
              refine ⟨KB.out.c, ?_⟩
              go_frame
              refine h_all1 (i := 19) (by kernel_rfl) ?_
              refine o_step rfl (by rfl) ?_
              refine wp_append_lies _ (.tmp 16) (.tmp 34) 23 rfl 0 56 i0 _ 5 88 Tryz.underlying23 hi hz0 hz1 hz2 rfl (by decide) (.slice va k vc) k (fl ozC ys) rfl HOW.out ⟨W6.heap.size, 0, none⟩ 1 1 (ozC.c ⟨zk, zn, x2, y2, zrs, x4, y4, zst, x6, y6, zpt⟩) rfl rfl (World.news_of_block (heap_alloc_new _ _)) (ozC.one _) (by decide) (by unfold maxLen; omega) (by omega) (Nat.zero_le _) _ rfl ?_
              intro g cap w4 hown4 hgrow4 hat4 hlt4
              have NX := Lib.hid (HR.out.next rfl KB.out.b HZO.out HZN.out hgrow4 hown4 hat4 HYL.out (HEQ.out _ rfl))
              refine ⟨kept_box HR.out KB.out hgrow4, ?_⟩
              go_frame
              refine h_val (i := 20) (v := .slice (some ⟨g, 0, none⟩) (k + 1) cap) rfl (by kernel_rfl) (by kernel_rfl) (by kernel_rfl) (fun _ _ _ h => h) (by rfl) (fun wz hS => ?_) (kept_box HR.out KB.out hgrow4) ?_
              · skip
                go_simp
              go_frame
              refine h_done (by kernel_rfl) ?_
              go_wp2
              go_roundw
              case rel => exact ⟨k + 1, _, _, _, HLT.out, by rw [List.length_append, HYL.out]; rfl, rfl, by go_num, NX⟩
              case measure => have := HLT.out; simp [intOf]; omega
            · skip
              refine o_step rfl (by rfl) ?_
              refine wp_empty 54 63 chC.m rfl Tryz.underlying54 j3 hj3 (fun q7 W7 o7 b7 => ?_)
              have K7 := Lib.hid (K3.out.below b7)
              have O7 := Lib.hid (owns_mono (B' := wr.heap.size + 1) o7 (by have := K3.out.hi; first | exact this | (simp only [World.size_drew] at *; exact this)))
              have P7_8 := Lib.hid (owns_below P3_8.out b7)
              have P7_9 := Lib.hid (owns_below O3.out b7)
              clear o7 b7
              refine ⟨K7.out.c, ?_⟩
              go_frame
              refine h_all1 (i := 12) (by kernel_rfl) ?_
              refine o_step rfl (by rfl) ?_
              refine wp_append_rowC (C := attC) (.tmp 25) (.tmp 27) 53 rfl (wr.heap.size + 1) 61 j2 (av noAtt) 48 Tryz.underlying53 hj2 hj20 hj21 hj22 rfl (.slice (some ⟨q3, 0, none⟩) 0 0) 0 [] rfl P7_9.out _ zst rfl (HOK.out _ K7.out.b).s (by have := HS2.out; unfold maxLen; omega) (by have := HS2.out; omega) (by have := K7.out.hi; omega) (fun v8 W8 o8 g8 => ?_)
              rw [Nat.zero_add, List.nil_append] at o8
              obtain ⟨x8, y8, rfl, -, -⟩ := own_shape o8
              have K8 := Lib.hid (K7.out.grown P7_9.out (Nat.lt_succ_self _) g8)
              have O8 := Lib.hid o8
              have P8_8 := Lib.hid (own_far2 P7_8.out P7_9.out (by decide) g8)
              have P8_13 := Lib.hid (own_far2 O7.out P7_9.out (by decide) g8)
              clear o8 g8
              refine ⟨K8.out.c, ?_⟩
              go_frame
              refine h_all1 (i := 16) (by kernel_rfl) ?_
              refine o_step rfl (by rfl) ?_
              refine wp_append_rowC (C := chC) (.tmp 29) (.tmp 31) 54 rfl (wr.heap.size + 1) 63 j3 (cv noChg) 56 Tryz.underlying54 hj3 hj30 hj31 hj32 rfl (.slice (some ⟨q7, 0, none⟩) 0 0) 0 [] rfl P8_13.out _ zpt rfl (HOK.out _ K8.out.b).p (by have := HS3.out; unfold maxLen; omega) (by have := HS3.out; omega) (by have := K8.out.hi; omega) (fun v9 W9 o9 g9 => ?_)
              rw [Nat.zero_add, List.nil_append] at o9
              obtain ⟨x9, y9, rfl, -, -⟩ := own_shape o9
              have K9 := Lib.hid (K8.out.grown P8_13.out (Nat.lt_succ_self _) g9)
              have O9 := Lib.hid o9
              have P9_8 := Lib.hid (own_far2 P8_8.out P8_13.out (by decide) g9)
              have P9_12 := Lib.hid (own_far2 O8.out P8_13.out (by decide) g9)
              clear o9 g9
              refine ⟨K9.out.c, ?_⟩
              go_frame
              refine h_val (i := 17) (v := .agg (opcs zk zn x2 zrs.length y2 x8 zst.length y8 x9 zpt.length y9)) rfl (by kernel_rfl) (by kernel_rfl) (by kernel_rfl) (fun _ _ _ h => h) (by rfl) (fun wz hS => ?_) K9.out.c ?_
              · skip
                go_simp
              go_frame
              refine h_all1 (i := 18) (by kernel_rfl) ?_
              refine o_step rfl (by rfl) ?_
              refine wp_do (v := .slice (some ⟨W9.heap.size, 0, none⟩) 1 1) (w' := W9.alloc (.cells (opcs zk zn x2 zrs.length y2 x8 zst.length y8 x9 zpt.length y9) 56)) (by go_simp) ?_
              have KB := Lib.hid (K9.out.below (kbelow_one W9 (.cells (opcs zk zn x2 zrs.length y2 x8 zst.length y8 x9 zpt.length y9) 56)))
              have HOW := Lib.hid (HROW.out _ KB.out.b)
              have HZO := Lib.hid (op_new (k := zk) (n := zn) (rs := zrs) (show World.ownsRow W9 _ 21 1 _ _ _ from by have := P9_8.out; rwa [fl_intC] at this) P9_12.out O9.out HWB.out (kbelow_one W9 (.cells (opcs zk zn x2 zrs.length y2 x8 zst.length y8 x9 zpt.length y9) 56)) (Nat.le_succ _) (Nat.le_succ _) (Nat.le_succ _))
              have HZN := Lib.hid (fun g (hg : (Value.slice x2 zrs.length y2).ownBlock = some g) => (Nat.le_of_succ_le (own_base P9_8.out hg) : wr.heap.size ≤ g))
              refine ⟨KB.out.c, ?_⟩
              go_frame
              refine h_all1 (i := 19) (by kernel_rfl) ?_
              refine o_step rfl (by rfl) ?_
              refine wp_append_lies _ (.tmp 16) (.tmp 34) 23 rfl 0 56 i0 _ 5 88 Tryz.underlying23 hi hz0 hz1 hz2 rfl (by decide) (.slice va k vc) k (fl ozC ys) rfl HOW.out ⟨W9.heap.size, 0, none⟩ 1 1 (ozC.c ⟨zk, zn, x2, y2, zrs, x8, y8, zst, x9, y9, zpt⟩) rfl rfl (World.news_of_block (heap_alloc_new _ _)) (ozC.one _) (by decide) (by unfold maxLen; omega) (by omega) (Nat.zero_le _) _ rfl ?_
              intro g cap w4 hown4 hgrow4 hat4 hlt4
              have NX := Lib.hid (HR.out.next rfl KB.out.b HZO.out HZN.out hgrow4 hown4 hat4 HYL.out (HEQ.out _ rfl))
              refine ⟨kept_box HR.out KB.out hgrow4, ?_⟩
              go_frame
              refine h_val (i := 20) (v := .slice (some ⟨g, 0, none⟩) (k + 1) cap) rfl (by kernel_rfl) (by kernel_rfl) (by kernel_rfl) (fun _ _ _ h => h) (by rfl) (fun wz hS => ?_) (kept_box HR.out KB.out hgrow4) ?_
              · skip
                go_simp
              go_frame
              refine h_done (by kernel_rfl) ?_
              go_wp2
              go_roundw
              case rel => exact ⟨k + 1, _, _, _, HLT.out, by rw [List.length_append, HYL.out]; rfl, rfl, by go_num, NX⟩
              case measure => have := HLT.out; simp [intOf]; omega
          · skip
            refine o_step rfl (by rfl) ?_
            refine wp_empty 54 63 chC.m rfl Tryz.underlying54 j3 hj3 (fun q10 W10 o10 b10 => ?_)
            have K10 := Lib.hid (K2.out.below b10)
            have O10 := Lib.hid (owns_mono (B' := wr.heap.size + 1) o10 (by have := K2.out.hi; first | exact this | (simp only [World.size_drew] at *; exact this)))
            have P10_8 := Lib.hid (owns_below O2.out b10)
            clear o10 b10
            refine ⟨K10.out.c, ?_⟩
            go_frame
            refine h_all1 (i := 9) (by kernel_rfl) ?_
            refine o_step rfl (by rfl) ?_
            refine wp_empty 53 61 attC.m rfl Tryz.underlying53 j2 hj2 (fun q11 W11 o11 b11 => ?_)
            have K11 := Lib.hid (K10.out.below b11)
            have O11 := Lib.hid (owns_mono (B' := wr.heap.size + 1) o11 (by have := K10.out.hi; first | exact this | (simp only [World.size_drew] at *; exact this)))
            have P11_8 := Lib.hid (owns_below P10_8.out b11)
            have P11_13 := Lib.hid (owns_below O10.out b11)
            clear o11 b11
            refine ⟨K11.out.c, ?_⟩
            go_frame
            refine h_all1 (i := 12) (by kernel_rfl) ?_
            refine o_step rfl (by rfl) ?_
            refine wp_append_rowC (C := attC) (.tmp 25) (.tmp 27) 53 rfl (wr.heap.size + 1) 61 j2 (av noAtt) 48 Tryz.underlying53 hj2 hj20 hj21 hj22 rfl (.slice (some ⟨q11, 0, none⟩) 0 0) 0 [] rfl O11.out _ zst rfl (HOK.out _ K11.out.b).s (by have := HS2.out; unfold maxLen; omega) (by have := HS2.out; omega) (by have := K11.out.hi; omega) (fun v12 W12 o12 g12 => ?_)
            rw [Nat.zero_add, List.nil_append] at o12
            obtain ⟨x12, y12, rfl, -, -⟩ := own_shape o12
            have K12 := Lib.hid (K11.out.grown O11.out (Nat.lt_succ_self _) g12)
            have O12 := Lib.hid o12
            have P12_8 := Lib.hid (own_far2 P11_8.out O11.out (by decide) g12)
            have P12_13 := Lib.hid (own_far2 P11_13.out O11.out (by decide) g12)
            clear o12 g12
            refine ⟨K12.out.c, ?_⟩
            go_frame
            refine h_all1 (i := 16) (by kernel_rfl) ?_
            refine o_step rfl (by rfl) ?_
            refine wp_append_rowC (C := chC) (.tmp 29) (.tmp 31) 54 rfl (wr.heap.size + 1) 63 j3 (cv noChg) 56 Tryz.underlying54 hj3 hj30 hj31 hj32 rfl (.slice (some ⟨q10, 0, none⟩) 0 0) 0 [] rfl P12_13.out _ zpt rfl (HOK.out _ K12.out.b).p (by have := HS3.out; unfold maxLen; omega) (by have := HS3.out; omega) (by have := K12.out.hi; omega) (fun v13 W13 o13 g13 => ?_)
            rw [Nat.zero_add, List.nil_append] at o13
            obtain ⟨x13, y13, rfl, -, -⟩ := own_shape o13
            have K13 := Lib.hid (K12.out.grown P12_13.out (Nat.lt_succ_self _) g13)
            have O13 := Lib.hid o13
            have P13_8 := Lib.hid (own_far2 P12_8.out P12_13.out (by decide) g13)
            have P13_12 := Lib.hid (own_far2 O12.out P12_13.out (by decide) g13)
            clear o13 g13
            refine ⟨K13.out.c, ?_⟩
            go_frame
            refine h_val (i := 17) (v := .agg (opcs zk zn x2 zrs.length y2 x12 zst.length y12 x13 zpt.length y13)) rfl (by kernel_rfl) (by kernel_rfl) (by kernel_rfl) (fun _ _ _ h => h) (by rfl) (fun wz hS => ?_) K13.out.c ?_
            · skip
              go_simp
            go_frame
            refine h_all1 (i := 18) (by kernel_rfl) ?_
            refine o_step rfl (by rfl) ?_
            refine wp_do (v := .slice (some ⟨W13.heap.size, 0, none⟩) 1 1) (w' := W13.alloc (.cells (opcs zk zn x2 zrs.length y2 x12 zst.length y12 x13 zpt.length y13) 56)) (by go_simp) ?_
            have KB := Lib.hid (K13.out.below (kbelow_one W13 (.cells (opcs zk zn x2 zrs.length y2 x12 zst.length y12 x13 zpt.length y13) 56)))
            have HOW := Lib.hid (HROW.out _ KB.out.b)
            have HZO := Lib.hid (op_new (k := zk) (n := zn) (rs := zrs) (show World.ownsRow W13 _ 21 1 _ _ _ from by have := P13_8.out; rwa [fl_intC] at this) P13_12.out O13.out HWB.out (kbelow_one W13 (.cells (opcs zk zn x2 zrs.length y2 x12 zst.length y12 x13 zpt.length y13) 56)) (Nat.le_succ _) (Nat.le_succ _) (Nat.le_succ _))
            have HZN := Lib.hid (fun g (hg : (Value.slice x2 zrs.length y2).ownBlock = some g) => (Nat.le_of_succ_le (own_base P13_8.out hg) : wr.heap.size ≤ g))
            refine ⟨KB.out.c, ?_⟩
            go_frame
            refine h_all1 (i := 19) (by kernel_rfl) ?_
            refine o_step rfl (by rfl) ?_
            refine wp_append_lies _ (.tmp 16) (.tmp 34) 23 rfl 0 56 i0 _ 5 88 Tryz.underlying23 hi hz0 hz1 hz2 rfl (by decide) (.slice va k vc) k (fl ozC ys) rfl HOW.out ⟨W13.heap.size, 0, none⟩ 1 1 (ozC.c ⟨zk, zn, x2, y2, zrs, x12, y12, zst, x13, y13, zpt⟩) rfl rfl (World.news_of_block (heap_alloc_new _ _)) (ozC.one _) (by decide) (by unfold maxLen; omega) (by omega) (Nat.zero_le _) _ rfl ?_
            intro g cap w4 hown4 hgrow4 hat4 hlt4
            have NX := Lib.hid (HR.out.next rfl KB.out.b HZO.out HZN.out hgrow4 hown4 hat4 HYL.out (HEQ.out _ rfl))
            refine ⟨kept_box HR.out KB.out hgrow4, ?_⟩
            go_frame
            refine h_val (i := 20) (v := .slice (some ⟨g, 0, none⟩) (k + 1) cap) rfl (by kernel_rfl) (by kernel_rfl) (by kernel_rfl) (fun _ _ _ h => h) (by rfl) (fun wz hS => ?_) (kept_box HR.out KB.out hgrow4) ?_
            · skip
              go_simp
            go_frame
            refine h_done (by kernel_rfl) ?_
            go_wp2
            go_roundw
            case rel => exact ⟨k + 1, _, _, _, HLT.out, by rw [List.length_append, HYL.out]; rfl, rfl, by go_num, NX⟩
            case measure => have := HLT.out; simp [intOf]; omega
        · skip
          refine o_step rfl (by rfl) ?_
          refine wp_empty 53 61 attC.m rfl Tryz.underlying53 j2 hj2 (fun q14 W14 o14 b14 => ?_)
          have K14 := Lib.hid (K1.out.below b14)
          have O14 := Lib.hid (owns_mono (B' := wr.heap.size + 1) o14 (by have := K1.out.hi; first | exact this | (simp only [World.size_drew] at *; exact this)))
          have P14_5 := Lib.hid (owns_below O1.out b14)
          clear o14 b14
          refine ⟨K14.out.c, ?_⟩
          go_frame
          refine h_all2 (i := 8) (j := 13) (by kernel_rfl) ?_ ?_
          · skip
            refine o_step rfl (by rfl) ?_
            refine wp_append_rowC (C := intC) (.tmp 21) (.tmp 23) 52 rfl (wr.heap.size + 1) 21 j1 (.int .i32 0) 4 Tryz.underlying52 hj1 hj10 hj11 hj12 rfl (.slice (some ⟨q1, 0, none⟩) 0 0) 0 [] rfl P14_5.out _ zrs rfl (HOK.out _ K14.out.b).r.rowC (by have := HS1.out; unfold maxLen; omega) (by have := HS1.out; omega) (by have := K14.out.hi; omega) (fun v15 W15 o15 g15 => ?_)
            rw [Nat.zero_add, List.nil_append] at o15
            obtain ⟨x15, y15, rfl, -, -⟩ := own_shape o15
            have K15 := Lib.hid (K14.out.grown P14_5.out (Nat.lt_succ_self _) g15)
            have O15 := Lib.hid o15
            have P15_9 := Lib.hid (own_far2 O14.out P14_5.out (by decide) g15)
            clear o15 g15
            refine ⟨K15.out.c, ?_⟩
            go_frame
            refine h_all2 (i := 12) (j := 13) (by kernel_rfl) ?_ ?_
            · skip
              refine o_step rfl (by rfl) ?_
              refine wp_append_rowC (C := attC) (.tmp 25) (.tmp 27) 53 rfl (wr.heap.size + 1) 61 j2 (av noAtt) 48 Tryz.underlying53 hj2 hj20 hj21 hj22 rfl (.slice (some ⟨q14, 0, none⟩) 0 0) 0 [] rfl P15_9.out _ zst rfl (HOK.out _ K15.out.b).s (by have := HS2.out; unfold maxLen; omega) (by have := HS2.out; omega) (by have := K15.out.hi; omega) (fun v16 W16 o16 g16 => ?_)
              rw [Nat.zero_add, List.nil_append] at o16
              obtain ⟨x16, y16, rfl, -, -⟩ := own_shape o16
              have K16 := Lib.hid (K15.out.grown P15_9.out (Nat.lt_succ_self _) g16)
              have O16 := Lib.hid o16
              have P16_8 := Lib.hid (own_far2 O15.out P15_9.out (by decide) g16)
              clear o16 g16
              refine ⟨K16.out.c, ?_⟩
              go_frame
              refine h_all1 (i := 13) (by kernel_rfl) ?_
              refine o_step rfl (by rfl) ?_
              refine wp_empty 54 63 chC.m rfl Tryz.underlying54 j3 hj3 (fun q17 W17 o17 b17 => ?_)
              have K17 := Lib.hid (K16.out.below b17)
              have O17 := Lib.hid (owns_mono (B' := wr.heap.size + 1) o17 (by have := K16.out.hi; first | exact this | (simp only [World.size_drew] at *; exact this)))
              have P17_8 := Lib.hid (owns_below P16_8.out b17)
              have P17_12 := Lib.hid (owns_below O16.out b17)
              clear o17 b17
              refine ⟨K17.out.c, ?_⟩
              go_frame
              refine h_all1 (i := 16) (by kernel_rfl) ?_
              refine o_step rfl (by rfl) ?_
              refine wp_append_rowC (C := chC) (.tmp 29) (.tmp 31) 54 rfl (wr.heap.size + 1) 63 j3 (cv noChg) 56 Tryz.underlying54 hj3 hj30 hj31 hj32 rfl (.slice (some ⟨q17, 0, none⟩) 0 0) 0 [] rfl O17.out _ zpt rfl (HOK.out _ K17.out.b).p (by have := HS3.out; unfold maxLen; omega) (by have := HS3.out; omega) (by have := K17.out.hi; omega) (fun v18 W18 o18 g18 => ?_)
              rw [Nat.zero_add, List.nil_append] at o18
              obtain ⟨x18, y18, rfl, -, -⟩ := own_shape o18
              have K18 := Lib.hid (K17.out.grown O17.out (Nat.lt_succ_self _) g18)
              have O18 := Lib.hid o18
              have P18_8 := Lib.hid (own_far2 P17_8.out O17.out (by decide) g18)
              have P18_12 := Lib.hid (own_far2 P17_12.out O17.out (by decide) g18)
              clear o18 g18
              refine ⟨K18.out.c, ?_⟩
              go_frame
              refine h_val (i := 17) (v := .agg (opcs zk zn x15 zrs.length y15 x16 zst.length y16 x18 zpt.length y18)) rfl (by kernel_rfl) (by kernel_rfl) (by kernel_rfl) (fun _ _ _ h => h) (by rfl) (fun wz hS => ?_) K18.out.c ?_
              · skip
                go_simp
              go_frame
              refine h_all1 (i := 18) (by kernel_rfl) ?_
              refine o_step rfl (by rfl) ?_
              refine wp_do (v := .slice (some ⟨W18.heap.size, 0, none⟩) 1 1) (w' := W18.alloc (.cells (opcs zk zn x15 zrs.length y15 x16 zst.length y16 x18 zpt.length y18) 56)) (by go_simp) ?_
              have KB := Lib.hid (K18.out.below (kbelow_one W18 (.cells (opcs zk zn x15 zrs.length y15 x16 zst.length y16 x18 zpt.length y18) 56)))
              have HOW := Lib.hid (HROW.out _ KB.out.b)
              have HZO := Lib.hid (op_new (k := zk) (n := zn) (rs := zrs) (show World.ownsRow W18 _ 21 1 _ _ _ from by have := P18_8.out; rwa [fl_intC] at this) P18_12.out O18.out HWB.out (kbelow_one W18 (.cells (opcs zk zn x15 zrs.length y15 x16 zst.length y16 x18 zpt.length y18) 56)) (Nat.le_succ _) (Nat.le_succ _) (Nat.le_succ _))
              have HZN := Lib.hid (fun g (hg : (Value.slice x15 zrs.length y15).ownBlock = some g) => (Nat.le_of_succ_le (own_base P18_8.out hg) : wr.heap.size ≤ g))
              refine ⟨KB.out.c, ?_⟩
              go_frame
              refine h_all1 (i := 19) (by kernel_rfl) ?_
              refine o_step rfl (by rfl) ?_
              refine wp_append_lies _ (.tmp 16) (.tmp 34) 23 rfl 0 56 i0 _ 5 88 Tryz.underlying23 hi hz0 hz1 hz2 rfl (by decide) (.slice va k vc) k (fl ozC ys) rfl HOW.out ⟨W18.heap.size, 0, none⟩ 1 1 (ozC.c ⟨zk, zn, x15, y15, zrs, x16, y16, zst, x18, y18, zpt⟩) rfl rfl (World.news_of_block (heap_alloc_new _ _)) (ozC.one _) (by decide) (by unfold maxLen; omega) (by omega) (Nat.zero_le _) _ rfl ?_
              intro g cap w4 hown4 hgrow4 hat4 hlt4
              have NX := Lib.hid (HR.out.next rfl KB.out.b HZO.out HZN.out hgrow4 hown4 hat4 HYL.out (HEQ.out _ rfl))
              refine ⟨kept_box HR.out KB.out hgrow4, ?_⟩
              go_frame
              refine h_val (i := 20) (v := .slice (some ⟨g, 0, none⟩) (k + 1) cap) rfl (by kernel_rfl) (by kernel_rfl) (by kernel_rfl) (fun _ _ _ h => h) (by rfl) (fun wz hS => ?_) (kept_box HR.out KB.out hgrow4) ?_
              · skip
                go_simp
              go_frame
              refine h_done (by kernel_rfl) ?_
              go_wp2
              go_roundw
              case rel => exact ⟨k + 1, _, _, _, HLT.out, by rw [List.length_append, HYL.out]; rfl, rfl, by go_num, NX⟩
              case measure => have := HLT.out; simp [intOf]; omega
            · skip
              refine o_step rfl (by rfl) ?_
              refine wp_empty 54 63 chC.m rfl Tryz.underlying54 j3 hj3 (fun q19 W19 o19 b19 => ?_)
              have K19 := Lib.hid (K15.out.below b19)
              have O19 := Lib.hid (owns_mono (B' := wr.heap.size + 1) o19 (by have := K15.out.hi; first | exact this | (simp only [World.size_drew] at *; exact this)))
              have P19_9 := Lib.hid (owns_below P15_9.out b19)
              have P19_8 := Lib.hid (owns_below O15.out b19)
              clear o19 b19
              refine ⟨K19.out.c, ?_⟩
              go_frame
              refine h_all1 (i := 12) (by kernel_rfl) ?_
              refine o_step rfl (by rfl) ?_
              refine wp_append_rowC (C := attC) (.tmp 25) (.tmp 27) 53 rfl (wr.heap.size + 1) 61 j2 (av noAtt) 48 Tryz.underlying53 hj2 hj20 hj21 hj22 rfl (.slice (some ⟨q14, 0, none⟩) 0 0) 0 [] rfl P19_9.out _ zst rfl (HOK.out _ K19.out.b).s (by have := HS2.out; unfold maxLen; omega) (by have := HS2.out; omega) (by have := K19.out.hi; omega) (fun v20 W20 o20 g20 => ?_)
              rw [Nat.zero_add, List.nil_append] at o20
              obtain ⟨x20, y20, rfl, -, -⟩ := own_shape o20
              have K20 := Lib.hid (K19.out.grown P19_9.out (Nat.lt_succ_self _) g20)
              have O20 := Lib.hid o20
              have P20_8 := Lib.hid (own_far2 P19_8.out P19_9.out (by decide) g20)
              have P20_13 := Lib.hid (own_far2 O19.out P19_9.out (by decide) g20)
              clear o20 g20
              refine ⟨K20.out.c, ?_⟩
              go_frame
              refine h_all1 (i := 16) (by kernel_rfl) ?_
              refine o_step rfl (by rfl) ?_
              refine wp_append_rowC (C := chC) (.tmp 29) (.tmp 31) 54 rfl (wr.heap.size + 1) 63 j3 (cv noChg) 56 Tryz.underlying54 hj3 hj30 hj31 hj32 rfl (.slice (some ⟨q19, 0, none⟩) 0 0) 0 [] rfl P20_13.out _ zpt rfl (HOK.out _ K20.out.b).p (by have := HS3.out; unfold maxLen; omega) (by have := HS3.out; omega) (by have := K20.out.hi; omega) (fun v21 W21 o21 g21 => ?_)
              rw [Nat.zero_add, List.nil_append] at o21
              obtain ⟨x21, y21, rfl, -, -⟩ := own_shape o21
              have K21 := Lib.hid (K20.out.grown P20_13.out (Nat.lt_succ_self _) g21)
              have O21 := Lib.hid o21
              have P21_8 := Lib.hid (own_far2 P20_8.out P20_13.out (by decide) g21)
              have P21_12 := Lib.hid (own_far2 O20.out P20_13.out (by decide) g21)
              clear o21 g21
              refine ⟨K21.out.c, ?_⟩
              go_frame
              refine h_val (i := 17) (v := .agg (opcs zk zn x15 zrs.length y15 x20 zst.length y20 x21 zpt.length y21)) rfl (by kernel_rfl) (by kernel_rfl) (by kernel_rfl) (fun _ _ _ h => h) (by rfl) (fun wz hS => ?_) K21.out.c ?_
              · skip
                go_simp
              go_frame
              refine h_all1 (i := 18) (by kernel_rfl) ?_
              refine o_step rfl (by rfl) ?_
              refine wp_do (v := .slice (some ⟨W21.heap.size, 0, none⟩) 1 1) (w' := W21.alloc (.cells (opcs zk zn x15 zrs.length y15 x20 zst.length y20 x21 zpt.length y21) 56)) (by go_simp) ?_
              have KB := Lib.hid (K21.out.below (kbelow_one W21 (.cells (opcs zk zn x15 zrs.length y15 x20 zst.length y20 x21 zpt.length y21) 56)))
              have HOW := Lib.hid (HROW.out _ KB.out.b)
              have HZO := Lib.hid (op_new (k := zk) (n := zn) (rs := zrs) (show World.ownsRow W21 _ 21 1 _ _ _ from by have := P21_8.out; rwa [fl_intC] at this) P21_12.out O21.out HWB.out (kbelow_one W21 (.cells (opcs zk zn x15 zrs.length y15 x20 zst.length y20 x21 zpt.length y21) 56)) (Nat.le_succ _) (Nat.le_succ _) (Nat.le_succ _))
              have HZN := Lib.hid (fun g (hg : (Value.slice x15 zrs.length y15).ownBlock = some g) => (Nat.le_of_succ_le (own_base P21_8.out hg) : wr.heap.size ≤ g))
              refine ⟨KB.out.c, ?_⟩
              go_frame
              refine h_all1 (i := 19) (by kernel_rfl) ?_
              refine o_step rfl (by rfl) ?_
              refine wp_append_lies _ (.tmp 16) (.tmp 34) 23 rfl 0 56 i0 _ 5 88 Tryz.underlying23 hi hz0 hz1 hz2 rfl (by decide) (.slice va k vc) k (fl ozC ys) rfl HOW.out ⟨W21.heap.size, 0, none⟩ 1 1 (ozC.c ⟨zk, zn, x15, y15, zrs, x20, y20, zst, x21, y21, zpt⟩) rfl rfl (World.news_of_block (heap_alloc_new _ _)) (ozC.one _) (by decide) (by unfold maxLen; omega) (by omega) (Nat.zero_le _) _ rfl ?_
              intro g cap w4 hown4 hgrow4 hat4 hlt4
              have NX := Lib.hid (HR.out.next rfl KB.out.b HZO.out HZN.out hgrow4 hown4 hat4 HYL.out (HEQ.out _ rfl))
              refine ⟨kept_box HR.out KB.out hgrow4, ?_⟩
              go_frame
              refine h_val (i := 20) (v := .slice (some ⟨g, 0, none⟩) (k + 1) cap) rfl (by kernel_rfl) (by kernel_rfl) (by kernel_rfl) (fun _ _ _ h => h) (by rfl) (fun wz hS => ?_) (kept_box HR.out KB.out hgrow4) ?_
              · skip
                go_simp
              go_frame
              refine h_done (by kernel_rfl) ?_
              go_wp2
              go_roundw
              case rel => exact ⟨k + 1, _, _, _, HLT.out, by rw [List.length_append, HYL.out]; rfl, rfl, by go_num, NX⟩
              case measure => have := HLT.out; simp [intOf]; omega
          · skip
            refine o_step rfl (by rfl) ?_
            refine wp_empty 54 63 chC.m rfl Tryz.underlying54 j3 hj3 (fun q22 W22 o22 b22 => ?_)
            have K22 := Lib.hid (K14.out.below b22)
            have O22 := Lib.hid (owns_mono (B' := wr.heap.size + 1) o22 (by have := K14.out.hi; first | exact this | (simp only [World.size_drew] at *; exact this)))
            have P22_5 := Lib.hid (owns_below P14_5.out b22)
            have P22_9 := Lib.hid (owns_below O14.out b22)
            clear o22 b22
            refine ⟨K22.out.c, ?_⟩
            go_frame
            refine h_all1 (i := 8) (by kernel_rfl) ?_
            refine o_step rfl (by rfl) ?_
            refine wp_append_rowC (C := intC) (.tmp 21) (.tmp 23) 52 rfl (wr.heap.size + 1) 21 j1 (.int .i32 0) 4 Tryz.underlying52 hj1 hj10 hj11 hj12 rfl (.slice (some ⟨q1, 0, none⟩) 0 0) 0 [] rfl P22_5.out _ zrs rfl (HOK.out _ K22.out.b).r.rowC (by have := HS1.out; unfold maxLen; omega) (by have := HS1.out; omega) (by have := K22.out.hi; omega) (fun v23 W23 o23 g23 => ?_)
            rw [Nat.zero_add, List.nil_append] at o23
            obtain ⟨x23, y23, rfl, -, -⟩ := own_shape o23
            have K23 := Lib.hid (K22.out.grown P22_5.out (Nat.lt_succ_self _) g23)
            have O23 := Lib.hid o23
            have P23_9 := Lib.hid (own_far2 P22_9.out P22_5.out (by decide) g23)
            have P23_13 := Lib.hid (own_far2 O22.out P22_5.out (by decide) g23)
            clear o23 g23
            refine ⟨K23.out.c, ?_⟩
            go_frame
            refine h_all1 (i := 12) (by kernel_rfl) ?_
            refine o_step rfl (by rfl) ?_
            refine wp_append_rowC (C := attC) (.tmp 25) (.tmp 27) 53 rfl (wr.heap.size + 1) 61 j2 (av noAtt) 48 Tryz.underlying53 hj2 hj20 hj21 hj22 rfl (.slice (some ⟨q14, 0, none⟩) 0 0) 0 [] rfl P23_9.out _ zst rfl (HOK.out _ K23.out.b).s (by have := HS2.out; unfold maxLen; omega) (by have := HS2.out; omega) (by have := K23.out.hi; omega) (fun v24 W24 o24 g24 => ?_)
            rw [Nat.zero_add, List.nil_append] at o24
            obtain ⟨x24, y24, rfl, -, -⟩ := own_shape o24
            have K24 := Lib.hid (K23.out.grown P23_9.out (Nat.lt_succ_self _) g24)
            have O24 := Lib.hid o24
            have P24_13 := Lib.hid (own_far2 P23_13.out P23_9.out (by decide) g24)
            have P24_8 := Lib.hid (own_far2 O23.out P23_9.out (by decide) g24)
            clear o24 g24
            refine ⟨K24.out.c, ?_⟩
            go_frame
            refine h_all1 (i := 16) (by kernel_rfl) ?_
            refine o_step rfl (by rfl) ?_
            refine wp_append_rowC (C := chC) (.tmp 29) (.tmp 31) 54 rfl (wr.heap.size + 1) 63 j3 (cv noChg) 56 Tryz.underlying54 hj3 hj30 hj31 hj32 rfl (.slice (some ⟨q22, 0, none⟩) 0 0) 0 [] rfl P24_13.out _ zpt rfl (HOK.out _ K24.out.b).p (by have := HS3.out; unfold maxLen; omega) (by have := HS3.out; omega) (by have := K24.out.hi; omega) (fun v25 W25 o25 g25 => ?_)
            rw [Nat.zero_add, List.nil_append] at o25
            obtain ⟨x25, y25, rfl, -, -⟩ := own_shape o25
            have K25 := Lib.hid (K24.out.grown P24_13.out (Nat.lt_succ_self _) g25)
            have O25 := Lib.hid o25
            have P25_8 := Lib.hid (own_far2 P24_8.out P24_13.out (by decide) g25)
            have P25_12 := Lib.hid (own_far2 O24.out P24_13.out (by decide) g25)
            clear o25 g25
            refine ⟨K25.out.c, ?_⟩
            go_frame
            refine h_val (i := 17) (v := .agg (opcs zk zn x23 zrs.length y23 x24 zst.length y24 x25 zpt.length y25)) rfl (by kernel_rfl) (by kernel_rfl) (by kernel_rfl) (fun _ _ _ h => h) (by rfl) (fun wz hS => ?_) K25.out.c ?_
            · skip
              go_simp
            go_frame
            refine h_all1 (i := 18) (by kernel_rfl) ?_
            refine o_step rfl (by rfl) ?_
            refine wp_do (v := .slice (some ⟨W25.heap.size, 0, none⟩) 1 1) (w' := W25.alloc (.cells (opcs zk zn x23 zrs.length y23 x24 zst.length y24 x25 zpt.length y25) 56)) (by go_simp) ?_
            have KB := Lib.hid (K25.out.below (kbelow_one W25 (.cells (opcs zk zn x23 zrs.length y23 x24 zst.length y24 x25 zpt.length y25) 56)))
            have HOW := Lib.hid (HROW.out _ KB.out.b)
            have HZO := Lib.hid (op_new (k := zk) (n := zn) (rs := zrs) (show World.ownsRow W25 _ 21 1 _ _ _ from by have := P25_8.out; rwa [fl_intC] at this) P25_12.out O25.out HWB.out (kbelow_one W25 (.cells (opcs zk zn x23 zrs.length y23 x24 zst.length y24 x25 zpt.length y25) 56)) (Nat.le_succ _) (Nat.le_succ _) (Nat.le_succ _))
            have HZN := Lib.hid (fun g (hg : (Value.slice x23 zrs.length y23).ownBlock = some g) => (Nat.le_of_succ_le (own_base P25_8.out hg) : wr.heap.size ≤ g))
            refine ⟨KB.out.c, ?_⟩
            go_frame
            refine h_all1 (i := 19) (by kernel_rfl) ?_
            refine o_step rfl (by rfl) ?_
            refine wp_append_lies _ (.tmp 16) (.tmp 34) 23 rfl 0 56 i0 _ 5 88 Tryz.underlying23 hi hz0 hz1 hz2 rfl (by decide) (.slice va k vc) k (fl ozC ys) rfl HOW.out ⟨W25.heap.size, 0, none⟩ 1 1 (ozC.c ⟨zk, zn, x23, y23, zrs, x24, y24, zst, x25, y25, zpt⟩) rfl rfl (World.news_of_block (heap_alloc_new _ _)) (ozC.one _) (by decide) (by unfold maxLen; omega) (by omega) (Nat.zero_le _) _ rfl ?_
            intro g cap w4 hown4 hgrow4 hat4 hlt4
            have NX := Lib.hid (HR.out.next rfl KB.out.b HZO.out HZN.out hgrow4 hown4 hat4 HYL.out (HEQ.out _ rfl))
            refine ⟨kept_box HR.out KB.out hgrow4, ?_⟩
            go_frame
            refine h_val (i := 20) (v := .slice (some ⟨g, 0, none⟩) (k + 1) cap) rfl (by kernel_rfl) (by kernel_rfl) (by kernel_rfl) (fun _ _ _ h => h) (by rfl) (fun wz hS => ?_) (kept_box HR.out KB.out hgrow4) ?_
            · skip
              go_simp
            go_frame
            refine h_done (by kernel_rfl) ?_
            go_wp2
            go_roundw
            case rel => exact ⟨k + 1, _, _, _, HLT.out, by rw [List.length_append, HYL.out]; rfl, rfl, by go_num, NX⟩
            case measure => have := HLT.out; simp [intOf]; omega
        · skip
          refine o_step rfl (by rfl) ?_
          refine wp_empty 54 63 chC.m rfl Tryz.underlying54 j3 hj3 (fun q26 W26 o26 b26 => ?_)
          have K26 := Lib.hid (K1.out.below b26)
          have O26 := Lib.hid (owns_mono (B' := wr.heap.size + 1) o26 (by have := K1.out.hi; first | exact this | (simp only [World.size_drew] at *; exact this)))
          have P26_5 := Lib.hid (owns_below O1.out b26)
          clear o26 b26
          refine ⟨K26.out.c, ?_⟩
          go_frame
          refine h_all2 (i := 8) (j := 9) (by kernel_rfl) ?_ ?_
          · skip
            refine o_step rfl (by rfl) ?_
            refine wp_append_rowC (C := intC) (.tmp 21) (.tmp 23) 52 rfl (wr.heap.size + 1) 21 j1 (.int .i32 0) 4 Tryz.underlying52 hj1 hj10 hj11 hj12 rfl (.slice (some ⟨q1, 0, none⟩) 0 0) 0 [] rfl P26_5.out _ zrs rfl (HOK.out _ K26.out.b).r.rowC (by have := HS1.out; unfold maxLen; omega) (by have := HS1.out; omega) (by have := K26.out.hi; omega) (fun v27 W27 o27 g27 => ?_)
            rw [Nat.zero_add, List.nil_append] at o27
            obtain ⟨x27, y27, rfl, -, -⟩ := own_shape o27
            have K27 := Lib.hid (K26.out.grown P26_5.out (Nat.lt_succ_self _) g27)
            have O27 := Lib.hid o27
            have P27_13 := Lib.hid (own_far2 O26.out P26_5.out (by decide) g27)
            clear o27 g27
            refine ⟨K27.out.c, ?_⟩
            go_frame
            refine h_all1 (i := 9) (by kernel_rfl) ?_
            refine o_step rfl (by rfl) ?_
            refine wp_empty 53 61 attC.m rfl Tryz.underlying53 j2 hj2 (fun q28 W28 o28 b28 => ?_)
            have K28 := Lib.hid (K27.out.below b28)
            have O28 := Lib.hid (owns_mono (B' := wr.heap.size + 1) o28 (by have := K27.out.hi; first | exact this | (simp only [World.size_drew] at *; exact this)))
            have P28_13 := Lib.hid (owns_below P27_13.out b28)
            have P28_8 := Lib.hid (owns_below O27.out b28)
            clear o28 b28
            refine ⟨K28.out.c, ?_⟩
            go_frame
            refine h_all1 (i := 12) (by kernel_rfl) ?_
            refine o_step rfl (by rfl) ?_
            refine wp_append_rowC (C := attC) (.tmp 25) (.tmp 27) 53 rfl (wr.heap.size + 1) 61 j2 (av noAtt) 48 Tryz.underlying53 hj2 hj20 hj21 hj22 rfl (.slice (some ⟨q28, 0, none⟩) 0 0) 0 [] rfl O28.out _ zst rfl (HOK.out _ K28.out.b).s (by have := HS2.out; unfold maxLen; omega) (by have := HS2.out; omega) (by have := K28.out.hi; omega) (fun v29 W29 o29 g29 => ?_)
            rw [Nat.zero_add, List.nil_append] at o29
            obtain ⟨x29, y29, rfl, -, -⟩ := own_shape o29
            have K29 := Lib.hid (K28.out.grown O28.out (Nat.lt_succ_self _) g29)
            have O29 := Lib.hid o29
            have P29_13 := Lib.hid (own_far2 P28_13.out O28.out (by decide) g29)
            have P29_8 := Lib.hid (own_far2 P28_8.out O28.out (by decide) g29)
            clear o29 g29
            refine ⟨K29.out.c, ?_⟩
            go_frame
            refine h_all1 (i := 16) (by kernel_rfl) ?_
            refine o_step rfl (by rfl) ?_
            refine wp_append_rowC (C := chC) (.tmp 29) (.tmp 31) 54 rfl (wr.heap.size + 1) 63 j3 (cv noChg) 56 Tryz.underlying54 hj3 hj30 hj31 hj32 rfl (.slice (some ⟨q26, 0, none⟩) 0 0) 0 [] rfl P29_13.out _ zpt rfl (HOK.out _ K29.out.b).p (by have := HS3.out; unfold maxLen; omega) (by have := HS3.out; omega) (by have := K29.out.hi; omega) (fun v30 W30 o30 g30 => ?_)
            rw [Nat.zero_add, List.nil_append] at o30
            obtain ⟨x30, y30, rfl, -, -⟩ := own_shape o30
            have K30 := Lib.hid (K29.out.grown P29_13.out (Nat.lt_succ_self _) g30)
            have O30 := Lib.hid o30
            have P30_8 := Lib.hid (own_far2 P29_8.out P29_13.out (by decide) g30)
            have P30_12 := Lib.hid (own_far2 O29.out P29_13.out (by decide) g30)
            clear o30 g30
            refine ⟨K30.out.c, ?_⟩
            go_frame
            refine h_val (i := 17) (v := .agg (opcs zk zn x27 zrs.length y27 x29 zst.length y29 x30 zpt.length y30)) rfl (by kernel_rfl) (by kernel_rfl) (by kernel_rfl) (fun _ _ _ h => h) (by rfl) (fun wz hS => ?_) K30.out.c ?_
            · skip
              go_simp
            go_frame
            refine h_all1 (i := 18) (by kernel_rfl) ?_
            refine o_step rfl (by rfl) ?_
            refine wp_do (v := .slice (some ⟨W30.heap.size, 0, none⟩) 1 1) (w' := W30.alloc (.cells (opcs zk zn x27 zrs.length y27 x29 zst.length y29 x30 zpt.length y30) 56)) (by go_simp) ?_
            have KB := Lib.hid (K30.out.below (kbelow_one W30 (.cells (opcs zk zn x27 zrs.length y27 x29 zst.length y29 x30 zpt.length y30) 56)))
            have HOW := Lib.hid (HROW.out _ KB.out.b)
            have HZO := Lib.hid (op_new (k := zk) (n := zn) (rs := zrs) (show World.ownsRow W30 _ 21 1 _ _ _ from by have := P30_8.out; rwa [fl_intC] at this) P30_12.out O30.out HWB.out (kbelow_one W30 (.cells (opcs zk zn x27 zrs.length y27 x29 zst.length y29 x30 zpt.length y30) 56)) (Nat.le_succ _) (Nat.le_succ _) (Nat.le_succ _))
            have HZN := Lib.hid (fun g (hg : (Value.slice x27 zrs.length y27).ownBlock = some g) => (Nat.le_of_succ_le (own_base P30_8.out hg) : wr.heap.size ≤ g))
            refine ⟨KB.out.c, ?_⟩
            go_frame
            refine h_all1 (i := 19) (by kernel_rfl) ?_
            refine o_step rfl (by rfl) ?_
            refine wp_append_lies _ (.tmp 16) (.tmp 34) 23 rfl 0 56 i0 _ 5 88 Tryz.underlying23 hi hz0 hz1 hz2 rfl (by decide) (.slice va k vc) k (fl ozC ys) rfl HOW.out ⟨W30.heap.size, 0, none⟩ 1 1 (ozC.c ⟨zk, zn, x27, y27, zrs, x29, y29, zst, x30, y30, zpt⟩) rfl rfl (World.news_of_block (heap_alloc_new _ _)) (ozC.one _) (by decide) (by unfold maxLen; omega) (by omega) (Nat.zero_le _) _ rfl ?_
            intro g cap w4 hown4 hgrow4 hat4 hlt4
            have NX := Lib.hid (HR.out.next rfl KB.out.b HZO.out HZN.out hgrow4 hown4 hat4 HYL.out (HEQ.out _ rfl))
            refine ⟨kept_box HR.out KB.out hgrow4, ?_⟩
            go_frame
            refine h_val (i := 20) (v := .slice (some ⟨g, 0, none⟩) (k + 1) cap) rfl (by kernel_rfl) (by kernel_rfl) (by kernel_rfl) (fun _ _ _ h => h) (by rfl) (fun wz hS => ?_) (kept_box HR.out KB.out hgrow4) ?_
            · skip
              go_simp
            go_frame
            refine h_done (by kernel_rfl) ?_
            go_wp2
            go_roundw
            case rel => exact ⟨k + 1, _, _, _, HLT.out, by rw [List.length_append, HYL.out]; rfl, rfl, by go_num, NX⟩
            case measure => have := HLT.out; simp [intOf]; omega
          · skip
            refine o_step rfl (by rfl) ?_
            refine wp_empty 53 61 attC.m rfl Tryz.underlying53 j2 hj2 (fun q31 W31 o31 b31 => ?_)
            have K31 := Lib.hid (K26.out.below b31)
            have O31 := Lib.hid (owns_mono (B' := wr.heap.size + 1) o31 (by have := K26.out.hi; first | exact this | (simp only [World.size_drew] at *; exact this)))
            have P31_5 := Lib.hid (owns_below P26_5.out b31)
            have P31_13 := Lib.hid (owns_below O26.out b31)
            clear o31 b31
            refine ⟨K31.out.c, ?_⟩
            go_frame
            refine h_all1 (i := 8) (by kernel_rfl) ?_
            refine o_step rfl (by rfl) ?_
            refine wp_append_rowC (C := intC) (.tmp 21) (.tmp 23) 52 rfl (wr.heap.size + 1) 21 j1 (.int .i32 0) 4 Tryz.underlying52 hj1 hj10 hj11 hj12 rfl (.slice (some ⟨q1, 0, none⟩) 0 0) 0 [] rfl P31_5.out _ zrs rfl (HOK.out _ K31.out.b).r.rowC (by have := HS1.out; unfold maxLen; omega) (by have := HS1.out; omega) (by have := K31.out.hi; omega) (fun v32 W32 o32 g32 => ?_)
            rw [Nat.zero_add, List.nil_append] at o32
            obtain ⟨x32, y32, rfl, -, -⟩ := own_shape o32
            have K32 := Lib.hid (K31.out.grown P31_5.out (Nat.lt_succ_self _) g32)
            have O32 := Lib.hid o32
            have P32_13 := Lib.hid (own_far2 P31_13.out P31_5.out (by decide) g32)
            have P32_9 := Lib.hid (own_far2 O31.out P31_5.out (by decide) g32)
            clear o32 g32
            refine ⟨K32.out.c, ?_⟩
            go_frame
            refine h_all1 (i := 12) (by kernel_rfl) ?_
            refine o_step rfl (by rfl) ?_
            refine wp_append_rowC (C := attC) (.tmp 25) (.tmp 27) 53 rfl (wr.heap.size + 1) 61 j2 (av noAtt) 48 Tryz.underlying53 hj2 hj20 hj21 hj22 rfl (.slice (some ⟨q31, 0, none⟩) 0 0) 0 [] rfl P32_9.out _ zst rfl (HOK.out _ K32.out.b).s (by have := HS2.out; unfold maxLen; omega) (by have := HS2.out; omega) (by have := K32.out.hi; omega) (fun v33 W33 o33 g33 => ?_)
            rw [Nat.zero_add, List.nil_append] at o33
            obtain ⟨x33, y33, rfl, -, -⟩ := own_shape o33
            have K33 := Lib.hid (K32.out.grown P32_9.out (Nat.lt_succ_self _) g33)
            have O33 := Lib.hid o33
            have P33_13 := Lib.hid (own_far2 P32_13.out P32_9.out (by decide) g33)
            have P33_8 := Lib.hid (own_far2 O32.out P32_9.out (by decide) g33)
            clear o33 g33
            refine ⟨K33.out.c, ?_⟩
            go_frame
            refine h_all1 (i := 16) (by kernel_rfl) ?_
            refine o_step rfl (by rfl) ?_
            refine wp_append_rowC (C := chC) (.tmp 29) (.tmp 31) 54 rfl (wr.heap.size + 1) 63 j3 (cv noChg) 56 Tryz.underlying54 hj3 hj30 hj31 hj32 rfl (.slice (some ⟨q26, 0, none⟩) 0 0) 0 [] rfl P33_13.out _ zpt rfl (HOK.out _ K33.out.b).p (by have := HS3.out; unfold maxLen; omega) (by have := HS3.out; omega) (by have := K33.out.hi; omega) (fun v34 W34 o34 g34 => ?_)
            rw [Nat.zero_add, List.nil_append] at o34
            obtain ⟨x34, y34, rfl, -, -⟩ := own_shape o34
            have K34 := Lib.hid (K33.out.grown P33_13.out (Nat.lt_succ_self _) g34)
            have O34 := Lib.hid o34
            have P34_8 := Lib.hid (own_far2 P33_8.out P33_13.out (by decide) g34)
            have P34_12 := Lib.hid (own_far2 O33.out P33_13.out (by decide) g34)
            clear o34 g34
            refine ⟨K34.out.c, ?_⟩
            go_frame
            refine h_val (i := 17) (v := .agg (opcs zk zn x32 zrs.length y32 x33 zst.length y33 x34 zpt.length y34)) rfl (by kernel_rfl) (by kernel_rfl) (by kernel_rfl) (fun _ _ _ h => h) (by rfl) (fun wz hS => ?_) K34.out.c ?_
            · skip
              go_simp
            go_frame
            refine h_all1 (i := 18) (by kernel_rfl) ?_
            refine o_step rfl (by rfl) ?_
            refine wp_do (v := .slice (some ⟨W34.heap.size, 0, none⟩) 1 1) (w' := W34.alloc (.cells (opcs zk zn x32 zrs.length y32 x33 zst.length y33 x34 zpt.length y34) 56)) (by go_simp) ?_
            have KB := Lib.hid (K34.out.below (kbelow_one W34 (.cells (opcs zk zn x32 zrs.length y32 x33 zst.length y33 x34 zpt.length y34) 56)))
            have HOW := Lib.hid (HROW.out _ KB.out.b)
            have HZO := Lib.hid (op_new (k := zk) (n := zn) (rs := zrs) (show World.ownsRow W34 _ 21 1 _ _ _ from by have := P34_8.out; rwa [fl_intC] at this) P34_12.out O34.out HWB.out (kbelow_one W34 (.cells (opcs zk zn x32 zrs.length y32 x33 zst.length y33 x34 zpt.length y34) 56)) (Nat.le_succ _) (Nat.le_succ _) (Nat.le_succ _))
            have HZN := Lib.hid (fun g (hg : (Value.slice x32 zrs.length y32).ownBlock = some g) => (Nat.le_of_succ_le (own_base P34_8.out hg) : wr.heap.size ≤ g))
            refine ⟨KB.out.c, ?_⟩
            go_frame
            refine h_all1 (i := 19) (by kernel_rfl) ?_
            refine o_step rfl (by rfl) ?_
            refine wp_append_lies _ (.tmp 16) (.tmp 34) 23 rfl 0 56 i0 _ 5 88 Tryz.underlying23 hi hz0 hz1 hz2 rfl (by decide) (.slice va k vc) k (fl ozC ys) rfl HOW.out ⟨W34.heap.size, 0, none⟩ 1 1 (ozC.c ⟨zk, zn, x32, y32, zrs, x33, y33, zst, x34, y34, zpt⟩) rfl rfl (World.news_of_block (heap_alloc_new _ _)) (ozC.one _) (by decide) (by unfold maxLen; omega) (by omega) (Nat.zero_le _) _ rfl ?_
            intro g cap w4 hown4 hgrow4 hat4 hlt4
            have NX := Lib.hid (HR.out.next rfl KB.out.b HZO.out HZN.out hgrow4 hown4 hat4 HYL.out (HEQ.out _ rfl))
            refine ⟨kept_box HR.out KB.out hgrow4, ?_⟩
            go_frame
            refine h_val (i := 20) (v := .slice (some ⟨g, 0, none⟩) (k + 1) cap) rfl (by kernel_rfl) (by kernel_rfl) (by kernel_rfl) (fun _ _ _ h => h) (by rfl) (fun wz hS => ?_) (kept_box HR.out KB.out hgrow4) ?_
            · skip
              go_simp
            go_frame
            refine h_done (by kernel_rfl) ?_
            go_wp2
            go_roundw
            case rel => exact ⟨k + 1, _, _, _, HLT.out, by rw [List.length_append, HYL.out]; rfl, rfl, by go_num, NX⟩
            case measure => have := HLT.out; simp [intOf]; omega
      · skip
        refine o_step rfl (by rfl) ?_
        refine wp_empty 53 61 attC.m rfl Tryz.underlying53 j2 hj2 (fun q35 W35 o35 b35 => ?_)
        have K35 := Lib.hid (K0.out.below b35)
        have O35 := Lib.hid (owns_mono (B' := wr.heap.size + 1) o35 (by have := K0.out.hi; first | exact this | (simp only [World.size_drew] at *; exact this)))
        clear o35 b35
        refine ⟨K35.out.c, ?_⟩
        go_frame
        refine h_all2 (i := 5) (j := 13) (by kernel_rfl) ?_ ?_
        · skip
          refine o_step rfl (by rfl) ?_
          refine wp_empty 52 21 intC.m rfl Tryz.underlying52 j1 hj1 (fun q36 W36 o36 b36 => ?_)
          have K36 := Lib.hid (K35.out.below b36)
          have O36 := Lib.hid (owns_mono (B' := wr.heap.size + 1) o36 (by have := K35.out.hi; first | exact this | (simp only [World.size_drew] at *; exact this)))
          have P36_9 := Lib.hid (owns_below O35.out b36)
          clear o36 b36
          refine ⟨K36.out.c, ?_⟩
          go_frame
          refine h_all2 (i := 8) (j := 13) (by kernel_rfl) ?_ ?_
          · skip
            refine o_step rfl (by rfl) ?_
            refine wp_append_rowC (C := intC) (.tmp 21) (.tmp 23) 52 rfl (wr.heap.size + 1) 21 j1 (.int .i32 0) 4 Tryz.underlying52 hj1 hj10 hj11 hj12 rfl (.slice (some ⟨q36, 0, none⟩) 0 0) 0 [] rfl O36.out _ zrs rfl (HOK.out _ K36.out.b).r.rowC (by have := HS1.out; unfold maxLen; omega) (by have := HS1.out; omega) (by have := K36.out.hi; omega) (fun v37 W37 o37 g37 => ?_)
            rw [Nat.zero_add, List.nil_append] at o37
            obtain ⟨x37, y37, rfl, -, -⟩ := own_shape o37
            have K37 := Lib.hid (K36.out.grown O36.out (Nat.lt_succ_self _) g37)
            have O37 := Lib.hid o37
            have P37_9 := Lib.hid (own_far2 P36_9.out O36.out (by decide) g37)
            clear o37 g37
            refine ⟨K37.out.c, ?_⟩
            go_frame
            refine h_all2 (i := 12) (j := 13) (by kernel_rfl) ?_ ?_
            · skip
              refine o_step rfl (by rfl) ?_
              refine wp_append_rowC (C := attC) (.tmp 25) (.tmp 27) 53 rfl (wr.heap.size + 1) 61 j2 (av noAtt) 48 Tryz.underlying53 hj2 hj20 hj21 hj22 rfl (.slice (some ⟨q35, 0, none⟩) 0 0) 0 [] rfl P37_9.out _ zst rfl (HOK.out _ K37.out.b).s (by have := HS2.out; unfold maxLen; omega) (by have := HS2.out; omega) (by have := K37.out.hi; omega) (fun v38 W38 o38 g38 => ?_)
              rw [Nat.zero_add, List.nil_append] at o38
              obtain ⟨x38, y38, rfl, -, -⟩ := own_shape o38
              have K38 := Lib.hid (K37.out.grown P37_9.out (Nat.lt_succ_self _) g38)
              have O38 := Lib.hid o38
              have P38_8 := Lib.hid (own_far2 O37.out P37_9.out (by decide) g38)
              clear o38 g38
              refine ⟨K38.out.c, ?_⟩
              go_frame
              refine h_all1 (i := 13) (by kernel_rfl) ?_
              refine o_step rfl (by rfl) ?_
              refine wp_empty 54 63 chC.m rfl Tryz.underlying54 j3 hj3 (fun q39 W39 o39 b39 => ?_)
              have K39 := Lib.hid (K38.out.below b39)
              have O39 := Lib.hid (owns_mono (B' := wr.heap.size + 1) o39 (by have := K38.out.hi; first | exact this | (simp only [World.size_drew] at *; exact this)))
              have P39_8 := Lib.hid (owns_below P38_8.out b39)
              have P39_12 := Lib.hid (owns_below O38.out b39)
              clear o39 b39
              refine ⟨K39.out.c, ?_⟩
              go_frame
              refine h_all1 (i := 16) (by kernel_rfl) ?_
              refine o_step rfl (by rfl) ?_
              refine wp_append_rowC (C := chC) (.tmp 29) (.tmp 31) 54 rfl (wr.heap.size + 1) 63 j3 (cv noChg) 56 Tryz.underlying54 hj3 hj30 hj31 hj32 rfl (.slice (some ⟨q39, 0, none⟩) 0 0) 0 [] rfl O39.out _ zpt rfl (HOK.out _ K39.out.b).p (by have := HS3.out; unfold maxLen; omega) (by have := HS3.out; omega) (by have := K39.out.hi; omega) (fun v40 W40 o40 g40 => ?_)
              rw [Nat.zero_add, List.nil_append] at o40
              obtain ⟨x40, y40, rfl, -, -⟩ := own_shape o40
              have K40 := Lib.hid (K39.out.grown O39.out (Nat.lt_succ_self _) g40)
              have O40 := Lib.hid o40
              have P40_8 := Lib.hid (own_far2 P39_8.out O39.out (by decide) g40)
              have P40_12 := Lib.hid (own_far2 P39_12.out O39.out (by decide) g40)
              clear o40 g40
              refine ⟨K40.out.c, ?_⟩
              go_frame
              refine h_val (i := 17) (v := .agg (opcs zk zn x37 zrs.length y37 x38 zst.length y38 x40 zpt.length y40)) rfl (by kernel_rfl) (by kernel_rfl) (by kernel_rfl) (fun _ _ _ h => h) (by rfl) (fun wz hS => ?_) K40.out.c ?_
              · skip
                go_simp
              go_frame
              refine h_all1 (i := 18) (by kernel_rfl) ?_
              refine o_step rfl (by rfl) ?_
              refine wp_do (v := .slice (some ⟨W40.heap.size, 0, none⟩) 1 1) (w' := W40.alloc (.cells (opcs zk zn x37 zrs.length y37 x38 zst.length y38 x40 zpt.length y40) 56)) (by go_simp) ?_
              have KB := Lib.hid (K40.out.below (kbelow_one W40 (.cells (opcs zk zn x37 zrs.length y37 x38 zst.length y38 x40 zpt.length y40) 56)))
              have HOW := Lib.hid (HROW.out _ KB.out.b)
              have HZO := Lib.hid (op_new (k := zk) (n := zn) (rs := zrs) (show World.ownsRow W40 _ 21 1 _ _ _ from by have := P40_8.out; rwa [fl_intC] at this) P40_12.out O40.out HWB.out (kbelow_one W40 (.cells (opcs zk zn x37 zrs.length y37 x38 zst.length y38 x40 zpt.length y40) 56)) (Nat.le_succ _) (Nat.le_succ _) (Nat.le_succ _))
              have HZN := Lib.hid (fun g (hg : (Value.slice x37 zrs.length y37).ownBlock = some g) => (Nat.le_of_succ_le (own_base P40_8.out hg) : wr.heap.size ≤ g))
              refine ⟨KB.out.c, ?_⟩
              go_frame
              refine h_all1 (i := 19) (by kernel_rfl) ?_
              refine o_step rfl (by rfl) ?_
              refine wp_append_lies _ (.tmp 16) (.tmp 34) 23 rfl 0 56 i0 _ 5 88 Tryz.underlying23 hi hz0 hz1 hz2 rfl (by decide) (.slice va k vc) k (fl ozC ys) rfl HOW.out ⟨W40.heap.size, 0, none⟩ 1 1 (ozC.c ⟨zk, zn, x37, y37, zrs, x38, y38, zst, x40, y40, zpt⟩) rfl rfl (World.news_of_block (heap_alloc_new _ _)) (ozC.one _) (by decide) (by unfold maxLen; omega) (by omega) (Nat.zero_le _) _ rfl ?_
              intro g cap w4 hown4 hgrow4 hat4 hlt4
              have NX := Lib.hid (HR.out.next rfl KB.out.b HZO.out HZN.out hgrow4 hown4 hat4 HYL.out (HEQ.out _ rfl))
              refine ⟨kept_box HR.out KB.out hgrow4, ?_⟩
              go_frame
              refine h_val (i := 20) (v := .slice (some ⟨g, 0, none⟩) (k + 1) cap) rfl (by kernel_rfl) (by kernel_rfl) (by kernel_rfl) (fun _ _ _ h => h) (by rfl) (fun wz hS => ?_) (kept_box HR.out KB.out hgrow4) ?_
              · skip
                go_simp
              go_frame
              refine h_done (by kernel_rfl) ?_
              go_wp2
              go_roundw
              case rel => exact ⟨k + 1, _, _, _, HLT.out, by rw [List.length_append, HYL.out]; rfl, rfl, by go_num, NX⟩
              case measure => have := HLT.out; simp [intOf]; omega
            · skip
              refine o_step rfl (by rfl) ?_
              refine wp_empty 54 63 chC.m rfl Tryz.underlying54 j3 hj3 (fun q41 W41 o41 b41 => ?_)
              have K41 := Lib.hid (K37.out.below b41)
              have O41 := Lib.hid (owns_mono (B' := wr.heap.size + 1) o41 (by have := K37.out.hi; first | exact this | (simp only [World.size_drew] at *; exact this)))
              have P41_9 := Lib.hid (owns_below P37_9.out b41)
              have P41_8 := Lib.hid (owns_below O37.out b41)
              clear o41 b41
              refine ⟨K41.out.c, ?_⟩
              go_frame
              refine h_all1 (i := 12) (by kernel_rfl) ?_
              refine o_step rfl (by rfl) ?_
              refine wp_append_rowC (C := attC) (.tmp 25) (.tmp 27) 53 rfl (wr.heap.size + 1) 61 j2 (av noAtt) 48 Tryz.underlying53 hj2 hj20 hj21 hj22 rfl (.slice (some ⟨q35, 0, none⟩) 0 0) 0 [] rfl P41_9.out _ zst rfl (HOK.out _ K41.out.b).s (by have := HS2.out; unfold maxLen; omega) (by have := HS2.out; omega) (by have := K41.out.hi; omega) (fun v42 W42 o42 g42 => ?_)
              rw [Nat.zero_add, List.nil_append] at o42
              obtain ⟨x42, y42, rfl, -, -⟩ := own_shape o42
              have K42 := Lib.hid (K41.out.grown P41_9.out (Nat.lt_succ_self _) g42)
              have O42 := Lib.hid o42
              have P42_8 := Lib.hid (own_far2 P41_8.out P41_9.out (by decide) g42)
              have P42_13 := Lib.hid (own_far2 O41.out P41_9.out (by decide) g42)
              clear o42 g42
              refine ⟨K42.out.c, ?_⟩
              go_frame
              refine h_all1 (i := 16) (by kernel_rfl) ?_
              refine o_step rfl (by rfl) ?_
              refine wp_append_rowC (C := chC) (.tmp 29) (.tmp 31) 54 rfl (wr.heap.size + 1) 63 j3 (cv noChg) 56 Tryz.underlying54 hj3 hj30 hj31 hj32 rfl (.slice (some ⟨q41, 0, none⟩) 0 0) 0 [] rfl P42_13.out _ zpt rfl (HOK.out _ K42.out.b).p (by have := HS3.out; unfold maxLen; omega) (by have := HS3.out; omega) (by have := K42.out.hi; omega) (fun v43 W43 o43 g43 => ?_)
              rw [Nat.zero_add, List.nil_append] at o43
              obtain ⟨x43, y43, rfl, -, -⟩ := own_shape o43
              have K43 := Lib.hid (K42.out.grown P42_13.out (Nat.lt_succ_self _) g43)
              have O43 := Lib.hid o43
              have P43_8 := Lib.hid (own_far2 P42_8.out P42_13.out (by decide) g43)
              have P43_12 := Lib.hid (own_far2 O42.out P42_13.out (by decide) g43)
              clear o43 g43
              refine ⟨K43.out.c, ?_⟩
              go_frame
              refine h_val (i := 17) (v := .agg (opcs zk zn x37 zrs.length y37 x42 zst.length y42 x43 zpt.length y43)) rfl (by kernel_rfl) (by kernel_rfl) (by kernel_rfl) (fun _ _ _ h => h) (by rfl) (fun wz hS => ?_) K43.out.c ?_
              · skip
                go_simp
              go_frame
              refine h_all1 (i := 18) (by kernel_rfl) ?_
              refine o_step rfl (by rfl) ?_
              refine wp_do (v := .slice (some ⟨W43.heap.size, 0, none⟩) 1 1) (w' := W43.alloc (.cells (opcs zk zn x37 zrs.length y37 x42 zst.length y42 x43 zpt.length y43) 56)) (by go_simp) ?_
              have KB := Lib.hid (K43.out.below (kbelow_one W43 (.cells (opcs zk zn x37 zrs.length y37 x42 zst.length y42 x43 zpt.length y43) 56)))
              have HOW := Lib.hid (HROW.out _ KB.out.b)
              have HZO := Lib.hid (op_new (k := zk) (n := zn) (rs := zrs) (show World.ownsRow W43 _ 21 1 _ _ _ from by have := P43_8.out; rwa [fl_intC] at this) P43_12.out O43.out HWB.out (kbelow_one W43 (.cells (opcs zk zn x37 zrs.length y37 x42 zst.length y42 x43 zpt.length y43) 56)) (Nat.le_succ _) (Nat.le_succ _) (Nat.le_succ _))
              have HZN := Lib.hid (fun g (hg : (Value.slice x37 zrs.length y37).ownBlock = some g) => (Nat.le_of_succ_le (own_base P43_8.out hg) : wr.heap.size ≤ g))
              refine ⟨KB.out.c, ?_⟩
              go_frame
              refine h_all1 (i := 19) (by kernel_rfl) ?_
              refine o_step rfl (by rfl) ?_
              refine wp_append_lies _ (.tmp 16) (.tmp 34) 23 rfl 0 56 i0 _ 5 88 Tryz.underlying23 hi hz0 hz1 hz2 rfl (by decide) (.slice va k vc) k (fl ozC ys) rfl HOW.out ⟨W43.heap.size, 0, none⟩ 1 1 (ozC.c ⟨zk, zn, x37, y37, zrs, x42, y42, zst, x43, y43, zpt⟩) rfl rfl (World.news_of_block (heap_alloc_new _ _)) (ozC.one _) (by decide) (by unfold maxLen; omega) (by omega) (Nat.zero_le _) _ rfl ?_
              intro g cap w4 hown4 hgrow4 hat4 hlt4
              have NX := Lib.hid (HR.out.next rfl KB.out.b HZO.out HZN.out hgrow4 hown4 hat4 HYL.out (HEQ.out _ rfl))
              refine ⟨kept_box HR.out KB.out hgrow4, ?_⟩
              go_frame
              refine h_val (i := 20) (v := .slice (some ⟨g, 0, none⟩) (k + 1) cap) rfl (by kernel_rfl) (by kernel_rfl) (by kernel_rfl) (fun _ _ _ h => h) (by rfl) (fun wz hS => ?_) (kept_box HR.out KB.out hgrow4) ?_
              · skip
                go_simp
              go_frame
              refine h_done (by kernel_rfl) ?_
              go_wp2
              go_roundw
              case rel => exact ⟨k + 1, _, _, _, HLT.out, by rw [List.length_append, HYL.out]; rfl, rfl, by go_num, NX⟩
              case measure => have := HLT.out; simp [intOf]; omega
          · skip
            refine o_step rfl (by rfl) ?_
            refine wp_empty 54 63 chC.m rfl Tryz.underlying54 j3 hj3 (fun q44 W44 o44 b44 => ?_)
            have K44 := Lib.hid (K36.out.below b44)
            have O44 := Lib.hid (owns_mono (B' := wr.heap.size + 1) o44 (by have := K36.out.hi; first | exact this | (simp only [World.size_drew] at *; exact this)))
            have P44_9 := Lib.hid (owns_below P36_9.out b44)
            have P44_5 := Lib.hid (owns_below O36.out b44)
            clear o44 b44
            refine ⟨K44.out.c, ?_⟩
            go_frame
            refine h_all1 (i := 8) (by kernel_rfl) ?_
            refine o_step rfl (by rfl) ?_
            refine wp_append_rowC (C := intC) (.tmp 21) (.tmp 23) 52 rfl (wr.heap.size + 1) 21 j1 (.int .i32 0) 4 Tryz.underlying52 hj1 hj10 hj11 hj12 rfl (.slice (some ⟨q36, 0, none⟩) 0 0) 0 [] rfl P44_5.out _ zrs rfl (HOK.out _ K44.out.b).r.rowC (by have := HS1.out; unfold maxLen; omega) (by have := HS1.out; omega) (by have := K44.out.hi; omega) (fun v45 W45 o45 g45 => ?_)
            rw [Nat.zero_add, List.nil_append] at o45
            obtain ⟨x45, y45, rfl, -, -⟩ := own_shape o45
            have K45 := Lib.hid (K44.out.grown P44_5.out (Nat.lt_succ_self _) g45)
            have O45 := Lib.hid o45
            have P45_9 := Lib.hid (own_far2 P44_9.out P44_5.out (by decide) g45)
            have P45_13 := Lib.hid (own_far2 O44.out P44_5.out (by decide) g45)
            clear o45 g45
            refine ⟨K45.out.c, ?_⟩
            go_frame
            refine h_all1 (i := 12) (by kernel_rfl) ?_
            refine o_step rfl (by rfl) ?_
            refine wp_append_rowC (C := attC) (.tmp 25) (.tmp 27) 53 rfl (wr.heap.size + 1) 61 j2 (av noAtt) 48 Tryz.underlying53 hj2 hj20 hj21 hj22 rfl (.slice (some ⟨q35, 0, none⟩) 0 0) 0 [] rfl P45_9.out _ zst rfl (HOK.out _ K45.out.b).s (by have := HS2.out; unfold maxLen; omega) (by have := HS2.out; omega) (by have := K45.out.hi; omega) (fun v46 W46 o46 g46 => ?_)
            rw [Nat.zero_add, List.nil_append] at o46
            obtain ⟨x46, y46, rfl, -, -⟩ := own_shape o46
            have K46 := Lib.hid (K45.out.grown P45_9.out (Nat.lt_succ_self _) g46)
            have O46 := Lib.hid o46
            have P46_13 := Lib.hid (own_far2 P45_13.out P45_9.out (by decide) g46)
            have P46_8 := Lib.hid (own_far2 O45.out P45_9.out (by decide) g46)
            clear o46 g46
            refine ⟨K46.out.c, ?_⟩
            go_frame
            refine h_all1 (i := 16) (by kernel_rfl) ?_
            refine o_step rfl (by rfl) ?_
            refine wp_append_rowC (C := chC) (.tmp 29) (.tmp 31) 54 rfl (wr.heap.size + 1) 63 j3 (cv noChg) 56 Tryz.underlying54 hj3 hj30 hj31 hj32 rfl (.slice (some ⟨q44, 0, none⟩) 0 0) 0 [] rfl P46_13.out _ zpt rfl (HOK.out _ K46.out.b).p (by have := HS3.out; unfold maxLen; omega) (by have := HS3.out; omega) (by have := K46.out.hi; omega) (fun v47 W47 o47 g47 => ?_)
            rw [Nat.zero_add, List.nil_append] at o47
            obtain ⟨x47, y47, rfl, -, -⟩ := own_shape o47
            have K47 := Lib.hid (K46.out.grown P46_13.out (Nat.lt_succ_self _) g47)
            have O47 := Lib.hid o47
            have P47_8 := Lib.hid (own_far2 P46_8.out P46_13.out (by decide) g47)
            have P47_12 := Lib.hid (own_far2 O46.out P46_13.out (by decide) g47)
            clear o47 g47
            refine ⟨K47.out.c, ?_⟩
            go_frame
            refine h_val (i := 17) (v := .agg (opcs zk zn x45 zrs.length y45 x46 zst.length y46 x47 zpt.length y47)) rfl (by kernel_rfl) (by kernel_rfl) (by kernel_rfl) (fun _ _ _ h => h) (by rfl) (fun wz hS => ?_) K47.out.c ?_
            · skip
              go_simp
            go_frame
            refine h_all1 (i := 18) (by kernel_rfl) ?_
            refine o_step rfl (by rfl) ?_
            refine wp_do (v := .slice (some ⟨W47.heap.size, 0, none⟩) 1 1) (w' := W47.alloc (.cells (opcs zk zn x45 zrs.length y45 x46 zst.length y46 x47 zpt.length y47) 56)) (by go_simp) ?_
            have KB := Lib.hid (K47.out.below (kbelow_one W47 (.cells (opcs zk zn x45 zrs.length y45 x46 zst.length y46 x47 zpt.length y47) 56)))
            have HOW := Lib.hid (HROW.out _ KB.out.b)
            have HZO := Lib.hid (op_new (k := zk) (n := zn) (rs := zrs) (show World.ownsRow W47 _ 21 1 _ _ _ from by have := P47_8.out; rwa [fl_intC] at this) P47_12.out O47.out HWB.out (kbelow_one W47 (.cells (opcs zk zn x45 zrs.length y45 x46 zst.length y46 x47 zpt.length y47) 56)) (Nat.le_succ _) (Nat.le_succ _) (Nat.le_succ _))
            have HZN := Lib.hid (fun g (hg : (Value.slice x45 zrs.length y45).ownBlock = some g) => (Nat.le_of_succ_le (own_base P47_8.out hg) : wr.heap.size ≤ g))
            refine ⟨KB.out.c, ?_⟩
            go_frame
            refine h_all1 (i := 19) (by kernel_rfl) ?_
            refine o_step rfl (by rfl) ?_
            refine wp_append_lies _ (.tmp 16) (.tmp 34) 23 rfl 0 56 i0 _ 5 88 Tryz.underlying23 hi hz0 hz1 hz2 rfl (by decide) (.slice va k vc) k (fl ozC ys) rfl HOW.out ⟨W47.heap.size, 0, none⟩ 1 1 (ozC.c ⟨zk, zn, x45, y45, zrs, x46, y46, zst, x47, y47, zpt⟩) rfl rfl (World.news_of_block (heap_alloc_new _ _)) (ozC.one _) (by decide) (by unfold maxLen; omega) (by omega) (Nat.zero_le _) _ rfl ?_
            intro g cap w4 hown4 hgrow4 hat4 hlt4
            have NX := Lib.hid (HR.out.next rfl KB.out.b HZO.out HZN.out hgrow4 hown4 hat4 HYL.out (HEQ.out _ rfl))
            refine ⟨kept_box HR.out KB.out hgrow4, ?_⟩
            go_frame
            refine h_val (i := 20) (v := .slice (some ⟨g, 0, none⟩) (k + 1) cap) rfl (by kernel_rfl) (by kernel_rfl) (by kernel_rfl) (fun _ _ _ h => h) (by rfl) (fun wz hS => ?_) (kept_box HR.out KB.out hgrow4) ?_
            · skip
              go_simp
            go_frame
            refine h_done (by kernel_rfl) ?_
            go_wp2
            go_roundw
            case rel => exact ⟨k + 1, _, _, _, HLT.out, by rw [List.length_append, HYL.out]; rfl, rfl, by go_num, NX⟩
            case measure => have := HLT.out; simp [intOf]; omega
        · skip
          refine o_step rfl (by rfl) ?_
          refine wp_empty 54 63 chC.m rfl Tryz.underlying54 j3 hj3 (fun q48 W48 o48 b48 => ?_)
          have K48 := Lib.hid (K35.out.below b48)
          have O48 := Lib.hid (owns_mono (B' := wr.heap.size + 1) o48 (by have := K35.out.hi; first | exact this | (simp only [World.size_drew] at *; exact this)))
          have P48_9 := Lib.hid (owns_below O35.out b48)
          clear o48 b48
          refine ⟨K48.out.c, ?_⟩
          go_frame
          refine h_all1 (i := 5) (by kernel_rfl) ?_
          refine o_step rfl (by rfl) ?_
          refine wp_empty 52 21 intC.m rfl Tryz.underlying52 j1 hj1 (fun q49 W49 o49 b49 => ?_)
          have K49 := Lib.hid (K48.out.below b49)
          have O49 := Lib.hid (owns_mono (B' := wr.heap.size + 1) o49 (by have := K48.out.hi; first | exact this | (simp only [World.size_drew] at *; exact this)))
          have P49_9 := Lib.hid (owns_below P48_9.out b49)
          have P49_13 := Lib.hid (owns_below O48.out b49)
          clear o49 b49
          refine ⟨K49.out.c, ?_⟩
          go_frame
          refine h_all1 (i := 8) (by kernel_rfl) ?_
          refine o_step rfl (by rfl) ?_
          refine wp_append_rowC (C := intC) (.tmp 21) (.tmp 23) 52 rfl (wr.heap.size + 1) 21 j1 (.int .i32 0) 4 Tryz.underlying52 hj1 hj10 hj11 hj12 rfl (.slice (some ⟨q49, 0, none⟩) 0 0) 0 [] rfl O49.out _ zrs rfl (HOK.out _ K49.out.b).r.rowC (by have := HS1.out; unfold maxLen; omega) (by have := HS1.out; omega) (by have := K49.out.hi; omega) (fun v50 W50 o50 g50 => ?_)
          rw [Nat.zero_add, List.nil_append] at o50
          obtain ⟨x50, y50, rfl, -, -⟩ := own_shape o50
          have K50 := Lib.hid (K49.out.grown O49.out (Nat.lt_succ_self _) g50)
          have O50 := Lib.hid o50
          have P50_9 := Lib.hid (own_far2 P49_9.out O49.out (by decide) g50)
          have P50_13 := Lib.hid (own_far2 P49_13.out O49.out (by decide) g50)
          clear o50 g50
          refine ⟨K50.out.c, ?_⟩
          go_frame
          refine h_all1 (i := 12) (by kernel_rfl) ?_
          refine o_step rfl (by rfl) ?_
          refine wp_append_rowC (C := attC) (.tmp 25) (.tmp 27) 53 rfl (wr.heap.size + 1) 61 j2 (av noAtt) 48 Tryz.underlying53 hj2 hj20 hj21 hj22 rfl (.slice (some ⟨q35, 0, none⟩) 0 0) 0 [] rfl P50_9.out _ zst rfl (HOK.out _ K50.out.b).s (by have := HS2.out; unfold maxLen; omega) (by have := HS2.out; omega) (by have := K50.out.hi; omega) (fun v51 W51 o51 g51 => ?_)
          rw [Nat.zero_add, List.nil_append] at o51
          obtain ⟨x51, y51, rfl, -, -⟩ := own_shape o51
          have K51 := Lib.hid (K50.out.grown P50_9.out (Nat.lt_succ_self _) g51)
          have O51 := Lib.hid o51
          have P51_13 := Lib.hid (own_far2 P50_13.out P50_9.out (by decide) g51)
          have P51_8 := Lib.hid (own_far2 O50.out P50_9.out (by decide) g51)
          clear o51 g51
          refine ⟨K51.out.c, ?_⟩
          go_frame
          refine h_all1 (i := 16) (by kernel_rfl) ?_
          refine o_step rfl (by rfl) ?_
          refine wp_append_rowC (C := chC) (.tmp 29) (.tmp 31) 54 rfl (wr.heap.size + 1) 63 j3 (cv noChg) 56 Tryz.underlying54 hj3 hj30 hj31 hj32 rfl (.slice (some ⟨q48, 0, none⟩) 0 0) 0 [] rfl P51_13.out _ zpt rfl (HOK.out _ K51.out.b).p (by have := HS3.out; unfold maxLen; omega) (by have := HS3.out; omega) (by have := K51.out.hi; omega) (fun v52 W52 o52 g52 => ?_)
          rw [Nat.zero_add, List.nil_append] at o52
          obtain ⟨x52, y52, rfl, -, -⟩ := own_shape o52
          have K52 := Lib.hid (K51.out.grown P51_13.out (Nat.lt_succ_self _) g52)
          have O52 := Lib.hid o52
          have P52_8 := Lib.hid (own_far2 P51_8.out P51_13.out (by decide) g52)
          have P52_12 := Lib.hid (own_far2 O51.out P51_13.out (by decide) g52)
          clear o52 g52
          refine ⟨K52.out.c, ?_⟩
          go_frame
          refine h_val (i := 17) (v := .agg (opcs zk zn x50 zrs.length y50 x51 zst.length y51 x52 zpt.length y52)) rfl (by kernel_rfl) (by kernel_rfl) (by kernel_rfl) (fun _ _ _ h => h) (by rfl) (fun wz hS => ?_) K52.out.c ?_
          · skip
            go_simp
          go_frame
          refine h_all1 (i := 18) (by kernel_rfl) ?_
          refine o_step rfl (by rfl) ?_
          refine wp_do (v := .slice (some ⟨W52.heap.size, 0, none⟩) 1 1) (w' := W52.alloc (.cells (opcs zk zn x50 zrs.length y50 x51 zst.length y51 x52 zpt.length y52) 56)) (by go_simp) ?_
          have KB := Lib.hid (K52.out.below (kbelow_one W52 (.cells (opcs zk zn x50 zrs.length y50 x51 zst.length y51 x52 zpt.length y52) 56)))
          have HOW := Lib.hid (HROW.out _ KB.out.b)
          have HZO := Lib.hid (op_new (k := zk) (n := zn) (rs := zrs) (show World.ownsRow W52 _ 21 1 _ _ _ from by have := P52_8.out; rwa [fl_intC] at this) P52_12.out O52.out HWB.out (kbelow_one W52 (.cells (opcs zk zn x50 zrs.length y50 x51 zst.length y51 x52 zpt.length y52) 56)) (Nat.le_succ _) (Nat.le_succ _) (Nat.le_succ _))
          have HZN := Lib.hid (fun g (hg : (Value.slice x50 zrs.length y50).ownBlock = some g) => (Nat.le_of_succ_le (own_base P52_8.out hg) : wr.heap.size ≤ g))
          refine ⟨KB.out.c, ?_⟩
          go_frame
          refine h_all1 (i := 19) (by kernel_rfl) ?_
          refine o_step rfl (by rfl) ?_
          refine wp_append_lies _ (.tmp 16) (.tmp 34) 23 rfl 0 56 i0 _ 5 88 Tryz.underlying23 hi hz0 hz1 hz2 rfl (by decide) (.slice va k vc) k (fl ozC ys) rfl HOW.out ⟨W52.heap.size, 0, none⟩ 1 1 (ozC.c ⟨zk, zn, x50, y50, zrs, x51, y51, zst, x52, y52, zpt⟩) rfl rfl (World.news_of_block (heap_alloc_new _ _)) (ozC.one _) (by decide) (by unfold maxLen; omega) (by omega) (Nat.zero_le _) _ rfl ?_
          intro g cap w4 hown4 hgrow4 hat4 hlt4
          have NX := Lib.hid (HR.out.next rfl KB.out.b HZO.out HZN.out hgrow4 hown4 hat4 HYL.out (HEQ.out _ rfl))
          refine ⟨kept_box HR.out KB.out hgrow4, ?_⟩
          go_frame
          refine h_val (i := 20) (v := .slice (some ⟨g, 0, none⟩) (k + 1) cap) rfl (by kernel_rfl) (by kernel_rfl) (by kernel_rfl) (fun _ _ _ h => h) (by rfl) (fun wz hS => ?_) (kept_box HR.out KB.out hgrow4) ?_
          · skip
            go_simp
          go_frame
          refine h_done (by kernel_rfl) ?_
          go_wp2
          go_roundw
          case rel => exact ⟨k + 1, _, _, _, HLT.out, by rw [List.length_append, HYL.out]; rfl, rfl, by go_num, NX⟩
          case measure => have := HLT.out; simp [intOf]; omega
      · skip
        refine o_step rfl (by rfl) ?_
        refine wp_empty 54 63 chC.m rfl Tryz.underlying54 j3 hj3 (fun q53 W53 o53 b53 => ?_)
        have K53 := Lib.hid (K0.out.below b53)
        have O53 := Lib.hid (owns_mono (B' := wr.heap.size + 1) o53 (by have := K0.out.hi; first | exact this | (simp only [World.size_drew] at *; exact this)))
        clear o53 b53
        refine ⟨K53.out.c, ?_⟩
        go_frame
        refine h_all2 (i := 5) (j := 9) (by kernel_rfl) ?_ ?_
        · skip
          refine o_step rfl (by rfl) ?_
          refine wp_empty 52 21 intC.m rfl Tryz.underlying52 j1 hj1 (fun q54 W54 o54 b54 => ?_)
          have K54 := Lib.hid (K53.out.below b54)
          have O54 := Lib.hid (owns_mono (B' := wr.heap.size + 1) o54 (by have := K53.out.hi; first | exact this | (simp only [World.size_drew] at *; exact this)))
          have P54_13 := Lib.hid (owns_below O53.out b54)
          clear o54 b54
          refine ⟨K54.out.c, ?_⟩
          go_frame
          refine h_all2 (i := 8) (j := 9) (by kernel_rfl) ?_ ?_
          · skip
            refine o_step rfl (by rfl) ?_
            refine wp_append_rowC (C := intC) (.tmp 21) (.tmp 23) 52 rfl (wr.heap.size + 1) 21 j1 (.int .i32 0) 4 Tryz.underlying52 hj1 hj10 hj11 hj12 rfl (.slice (some ⟨q54, 0, none⟩) 0 0) 0 [] rfl O54.out _ zrs rfl (HOK.out _ K54.out.b).r.rowC (by have := HS1.out; unfold maxLen; omega) (by have := HS1.out; omega) (by have := K54.out.hi; omega) (fun v55 W55 o55 g55 => ?_)
            rw [Nat.zero_add, List.nil_append] at o55
            obtain ⟨x55, y55, rfl, -, -⟩ := own_shape o55
            have K55 := Lib.hid (K54.out.grown O54.out (Nat.lt_succ_self _) g55)
            have O55 := Lib.hid o55
            have P55_13 := Lib.hid (own_far2 P54_13.out O54.out (by decide) g55)
            clear o55 g55
            refine ⟨K55.out.c, ?_⟩
            go_frame
            refine h_all1 (i := 9) (by kernel_rfl) ?_
            refine o_step rfl (by rfl) ?_
            refine wp_empty 53 61 attC.m rfl Tryz.underlying53 j2 hj2 (fun q56 W56 o56 b56 => ?_)
            have K56 := Lib.hid (K55.out.below b56)
            have O56 := Lib.hid (owns_mono (B' := wr.heap.size + 1) o56 (by have := K55.out.hi; first | exact this | (simp only [World.size_drew] at *; exact this)))
            have P56_13 := Lib.hid (owns_below P55_13.out b56)
            have P56_8 := Lib.hid (owns_below O55.out b56)
            clear o56 b56
            refine ⟨K56.out.c, ?_⟩
            go_frame
            refine h_all1 (i := 12) (by kernel_rfl) ?_
            refine o_step rfl (by rfl) ?_
            refine wp_append_rowC (C := attC) (.tmp 25) (.tmp 27) 53 rfl (wr.heap.size + 1) 61 j2 (av noAtt) 48 Tryz.underlying53 hj2 hj20 hj21 hj22 rfl (.slice (some ⟨q56, 0, none⟩) 0 0) 0 [] rfl O56.out _ zst rfl (HOK.out _ K56.out.b).s (by have := HS2.out; unfold maxLen; omega) (by have := HS2.out; omega) (by have := K56.out.hi; omega) (fun v57 W57 o57 g57 => ?_)
            rw [Nat.zero_add, List.nil_append] at o57
            obtain ⟨x57, y57, rfl, -, -⟩ := own_shape o57
            have K57 := Lib.hid (K56.out.grown O56.out (Nat.lt_succ_self _) g57)
            have O57 := Lib.hid o57
            have P57_13 := Lib.hid (own_far2 P56_13.out O56.out (by decide) g57)
            have P57_8 := Lib.hid (own_far2 P56_8.out O56.out (by decide) g57)
            clear o57 g57
            refine ⟨K57.out.c, ?_⟩
            go_frame
            refine h_all1 (i := 16) (by kernel_rfl) ?_
            refine o_step rfl (by rfl) ?_
            refine wp_append_rowC (C := chC) (.tmp 29) (.tmp 31) 54 rfl (wr.heap.size + 1) 63 j3 (cv noChg) 56 Tryz.underlying54 hj3 hj30 hj31 hj32 rfl (.slice (some ⟨q53, 0, none⟩) 0 0) 0 [] rfl P57_13.out _ zpt rfl (HOK.out _ K57.out.b).p (by have := HS3.out; unfold maxLen; omega) (by have := HS3.out; omega) (by have := K57.out.hi; omega) (fun v58 W58 o58 g58 => ?_)
            rw [Nat.zero_add, List.nil_append] at o58
            obtain ⟨x58, y58, rfl, -, -⟩ := own_shape o58
            have K58 := Lib.hid (K57.out.grown P57_13.out (Nat.lt_succ_self _) g58)
            have O58 := Lib.hid o58
            have P58_8 := Lib.hid (own_far2 P57_8.out P57_13.out (by decide) g58)
            have P58_12 := Lib.hid (own_far2 O57.out P57_13.out (by decide) g58)
            clear o58 g58
            refine ⟨K58.out.c, ?_⟩
            go_frame
            refine h_val (i := 17) (v := .agg (opcs zk zn x55 zrs.length y55 x57 zst.length y57 x58 zpt.length y58)) rfl (by kernel_rfl) (by kernel_rfl) (by kernel_rfl) (fun _ _ _ h => h) (by rfl) (fun wz hS => ?_) K58.out.c ?_
            · skip
              go_simp
            go_frame
            refine h_all1 (i := 18) (by kernel_rfl) ?_
            refine o_step rfl (by rfl) ?_
            refine wp_do (v := .slice (some ⟨W58.heap.size, 0, none⟩) 1 1) (w' := W58.alloc (.cells (opcs zk zn x55 zrs.length y55 x57 zst.length y57 x58 zpt.length y58) 56)) (by go_simp) ?_
            have KB := Lib.hid (K58.out.below (kbelow_one W58 (.cells (opcs zk zn x55 zrs.length y55 x57 zst.length y57 x58 zpt.length y58) 56)))
            have HOW := Lib.hid (HROW.out _ KB.out.b)
            have HZO := Lib.hid (op_new (k := zk) (n := zn) (rs := zrs) (show World.ownsRow W58 _ 21 1 _ _ _ from by have := P58_8.out; rwa [fl_intC] at this) P58_12.out O58.out HWB.out (kbelow_one W58 (.cells (opcs zk zn x55 zrs.length y55 x57 zst.length y57 x58 zpt.length y58) 56)) (Nat.le_succ _) (Nat.le_succ _) (Nat.le_succ _))
            have HZN := Lib.hid (fun g (hg : (Value.slice x55 zrs.length y55).ownBlock = some g) => (Nat.le_of_succ_le (own_base P58_8.out hg) : wr.heap.size ≤ g))
            refine ⟨KB.out.c, ?_⟩
            go_frame
            refine h_all1 (i := 19) (by kernel_rfl) ?_
            refine o_step rfl (by rfl) ?_
            refine wp_append_lies _ (.tmp 16) (.tmp 34) 23 rfl 0 56 i0 _ 5 88 Tryz.underlying23 hi hz0 hz1 hz2 rfl (by decide) (.slice va k vc) k (fl ozC ys) rfl HOW.out ⟨W58.heap.size, 0, none⟩ 1 1 (ozC.c ⟨zk, zn, x55, y55, zrs, x57, y57, zst, x58, y58, zpt⟩) rfl rfl (World.news_of_block (heap_alloc_new _ _)) (ozC.one _) (by decide) (by unfold maxLen; omega) (by omega) (Nat.zero_le _) _ rfl ?_
            intro g cap w4 hown4 hgrow4 hat4 hlt4
            have NX := Lib.hid (HR.out.next rfl KB.out.b HZO.out HZN.out hgrow4 hown4 hat4 HYL.out (HEQ.out _ rfl))
            refine ⟨kept_box HR.out KB.out hgrow4, ?_⟩
            go_frame
            refine h_val (i := 20) (v := .slice (some ⟨g, 0, none⟩) (k + 1) cap) rfl (by kernel_rfl) (by kernel_rfl) (by kernel_rfl) (fun _ _ _ h => h) (by rfl) (fun wz hS => ?_) (kept_box HR.out KB.out hgrow4) ?_
            · skip
              go_simp
            go_frame
            refine h_done (by kernel_rfl) ?_
            go_wp2
            go_roundw
            case rel => exact ⟨k + 1, _, _, _, HLT.out, by rw [List.length_append, HYL.out]; rfl, rfl, by go_num, NX⟩
            case measure => have := HLT.out; simp [intOf]; omega
          · skip
            refine o_step rfl (by rfl) ?_
            refine wp_empty 53 61 attC.m rfl Tryz.underlying53 j2 hj2 (fun q59 W59 o59 b59 => ?_)
            have K59 := Lib.hid (K54.out.below b59)
            have O59 := Lib.hid (owns_mono (B' := wr.heap.size + 1) o59 (by have := K54.out.hi; first | exact this | (simp only [World.size_drew] at *; exact this)))
            have P59_13 := Lib.hid (owns_below P54_13.out b59)
            have P59_5 := Lib.hid (owns_below O54.out b59)
            clear o59 b59
            refine ⟨K59.out.c, ?_⟩
            go_frame
            refine h_all1 (i := 8) (by kernel_rfl) ?_
            refine o_step rfl (by rfl) ?_
            refine wp_append_rowC (C := intC) (.tmp 21) (.tmp 23) 52 rfl (wr.heap.size + 1) 21 j1 (.int .i32 0) 4 Tryz.underlying52 hj1 hj10 hj11 hj12 rfl (.slice (some ⟨q54, 0, none⟩) 0 0) 0 [] rfl P59_5.out _ zrs rfl (HOK.out _ K59.out.b).r.rowC (by have := HS1.out; unfold maxLen; omega) (by have := HS1.out; omega) (by have := K59.out.hi; omega) (fun v60 W60 o60 g60 => ?_)
            rw [Nat.zero_add, List.nil_append] at o60
            obtain ⟨x60, y60, rfl, -, -⟩ := own_shape o60
            have K60 := Lib.hid (K59.out.grown P59_5.out (Nat.lt_succ_self _) g60)
            have O60 := Lib.hid o60
            have P60_13 := Lib.hid (own_far2 P59_13.out P59_5.out (by decide) g60)
            have P60_9 := Lib.hid (own_far2 O59.out P59_5.out (by decide) g60)
            clear o60 g60
            refine ⟨K60.out.c, ?_⟩
            go_frame
            refine h_all1 (i := 12) (by kernel_rfl) ?_
            refine o_step rfl (by rfl) ?_
            refine wp_append_rowC (C := attC) (.tmp 25) (.tmp 27) 53 rfl (wr.heap.size + 1) 61 j2 (av noAtt) 48 Tryz.underlying53 hj2 hj20 hj21 hj22 rfl (.slice (some ⟨q59, 0, none⟩) 0 0) 0 [] rfl P60_9.out _ zst rfl (HOK.out _ K60.out.b).s (by have := HS2.out; unfold maxLen; omega) (by have := HS2.out; omega) (by have := K60.out.hi; omega) (fun v61 W61 o61 g61 => ?_)
            rw [Nat.zero_add, List.nil_append] at o61
            obtain ⟨x61, y61, rfl, -, -⟩ := own_shape o61
            have K61 := Lib.hid (K60.out.grown P60_9.out (Nat.lt_succ_self _) g61)
            have O61 := Lib.hid o61
            have P61_13 := Lib.hid (own_far2 P60_13.out P60_9.out (by decide) g61)
            have P61_8 := Lib.hid (own_far2 O60.out P60_9.out (by decide) g61)
            clear o61 g61
            refine ⟨K61.out.c, ?_⟩
            go_frame
            refine h_all1 (i := 16) (by kernel_rfl) ?_
            refine o_step rfl (by rfl) ?_
            refine wp_append_rowC (C := chC) (.tmp 29) (.tmp 31) 54 rfl (wr.heap.size + 1) 63 j3 (cv noChg) 56 Tryz.underlying54 hj3 hj30 hj31 hj32 rfl (.slice (some ⟨q53, 0, none⟩) 0 0) 0 [] rfl P61_13.out _ zpt rfl (HOK.out _ K61.out.b).p (by have := HS3.out; unfold maxLen; omega) (by have := HS3.out; omega) (by have := K61.out.hi; omega) (fun v62 W62 o62 g62 => ?_)
            rw [Nat.zero_add, List.nil_append] at o62
            obtain ⟨x62, y62, rfl, -, -⟩ := own_shape o62
            have K62 := Lib.hid (K61.out.grown P61_13.out (Nat.lt_succ_self _) g62)
            have O62 := Lib.hid o62
            have P62_8 := Lib.hid (own_far2 P61_8.out P61_13.out (by decide) g62)
            have P62_12 := Lib.hid (own_far2 O61.out P61_13.out (by decide) g62)
            clear o62 g62
            refine ⟨K62.out.c, ?_⟩
            go_frame
            refine h_val (i := 17) (v := .agg (opcs zk zn x60 zrs.length y60 x61 zst.length y61 x62 zpt.length y62)) rfl (by kernel_rfl) (by kernel_rfl) (by kernel_rfl) (fun _ _ _ h => h) (by rfl) (fun wz hS => ?_) K62.out.c ?_
            · skip
              go_simp
            go_frame
            refine h_all1 (i := 18) (by kernel_rfl) ?_
            refine o_step rfl (by rfl) ?_
            refine wp_do (v := .slice (some ⟨W62.heap.size, 0, none⟩) 1 1) (w' := W62.alloc (.cells (opcs zk zn x60 zrs.length y60 x61 zst.length y61 x62 zpt.length y62) 56)) (by go_simp) ?_
            have KB := Lib.hid (K62.out.below (kbelow_one W62 (.cells (opcs zk zn x60 zrs.length y60 x61 zst.length y61 x62 zpt.length y62) 56)))
            have HOW := Lib.hid (HROW.out _ KB.out.b)
            have HZO := Lib.hid (op_new (k := zk) (n := zn) (rs := zrs) (show World.ownsRow W62 _ 21 1 _ _ _ from by have := P62_8.out; rwa [fl_intC] at this) P62_12.out O62.out HWB.out (kbelow_one W62 (.cells (opcs zk zn x60 zrs.length y60 x61 zst.length y61 x62 zpt.length y62) 56)) (Nat.le_succ _) (Nat.le_succ _) (Nat.le_succ _))
            have HZN := Lib.hid (fun g (hg : (Value.slice x60 zrs.length y60).ownBlock = some g) => (Nat.le_of_succ_le (own_base P62_8.out hg) : wr.heap.size ≤ g))
            refine ⟨KB.out.c, ?_⟩
            go_frame
            refine h_all1 (i := 19) (by kernel_rfl) ?_
            refine o_step rfl (by rfl) ?_
            refine wp_append_lies _ (.tmp 16) (.tmp 34) 23 rfl 0 56 i0 _ 5 88 Tryz.underlying23 hi hz0 hz1 hz2 rfl (by decide) (.slice va k vc) k (fl ozC ys) rfl HOW.out ⟨W62.heap.size, 0, none⟩ 1 1 (ozC.c ⟨zk, zn, x60, y60, zrs, x61, y61, zst, x62, y62, zpt⟩) rfl rfl (World.news_of_block (heap_alloc_new _ _)) (ozC.one _) (by decide) (by unfold maxLen; omega) (by omega) (Nat.zero_le _) _ rfl ?_
            intro g cap w4 hown4 hgrow4 hat4 hlt4
            have NX := Lib.hid (HR.out.next rfl KB.out.b HZO.out HZN.out hgrow4 hown4 hat4 HYL.out (HEQ.out _ rfl))
            refine ⟨kept_box HR.out KB.out hgrow4, ?_⟩
            go_frame
            refine h_val (i := 20) (v := .slice (some ⟨g, 0, none⟩) (k + 1) cap) rfl (by kernel_rfl) (by kernel_rfl) (by kernel_rfl) (fun _ _ _ h => h) (by rfl) (fun wz hS => ?_) (kept_box HR.out KB.out hgrow4) ?_
            · skip
              go_simp
            go_frame
            refine h_done (by kernel_rfl) ?_
            go_wp2
            go_roundw
            case rel => exact ⟨k + 1, _, _, _, HLT.out, by rw [List.length_append, HYL.out]; rfl, rfl, by go_num, NX⟩
            case measure => have := HLT.out; simp [intOf]; omega
        · skip
          refine o_step rfl (by rfl) ?_
          refine wp_empty 53 61 attC.m rfl Tryz.underlying53 j2 hj2 (fun q63 W63 o63 b63 => ?_)
          have K63 := Lib.hid (K53.out.below b63)
          have O63 := Lib.hid (owns_mono (B' := wr.heap.size + 1) o63 (by have := K53.out.hi; first | exact this | (simp only [World.size_drew] at *; exact this)))
          have P63_13 := Lib.hid (owns_below O53.out b63)
          clear o63 b63
          refine ⟨K63.out.c, ?_⟩
          go_frame
          refine h_all1 (i := 5) (by kernel_rfl) ?_
          refine o_step rfl (by rfl) ?_
          refine wp_empty 52 21 intC.m rfl Tryz.underlying52 j1 hj1 (fun q64 W64 o64 b64 => ?_)
          have K64 := Lib.hid (K63.out.below b64)
          have O64 := Lib.hid (owns_mono (B' := wr.heap.size + 1) o64 (by have := K63.out.hi; first | exact this | (simp only [World.size_drew] at *; exact this)))
          have P64_13 := Lib.hid (owns_below P63_13.out b64)
          have P64_9 := Lib.hid (owns_below O63.out b64)
          clear o64 b64
          refine ⟨K64.out.c, ?_⟩
          go_frame
          refine h_all1 (i := 8) (by kernel_rfl) ?_
          refine o_step rfl (by rfl) ?_
          refine wp_append_rowC (C := intC) (.tmp 21) (.tmp 23) 52 rfl (wr.heap.size + 1) 21 j1 (.int .i32 0) 4 Tryz.underlying52 hj1 hj10 hj11 hj12 rfl (.slice (some ⟨q64, 0, none⟩) 0 0) 0 [] rfl O64.out _ zrs rfl (HOK.out _ K64.out.b).r.rowC (by have := HS1.out; unfold maxLen; omega) (by have := HS1.out; omega) (by have := K64.out.hi; omega) (fun v65 W65 o65 g65 => ?_)
          rw [Nat.zero_add, List.nil_append] at o65
          obtain ⟨x65, y65, rfl, -, -⟩ := own_shape o65
          have K65 := Lib.hid (K64.out.grown O64.out (Nat.lt_succ_self _) g65)
          have O65 := Lib.hid o65
          have P65_13 := Lib.hid (own_far2 P64_13.out O64.out (by decide) g65)
          have P65_9 := Lib.hid (own_far2 P64_9.out O64.out (by decide) g65)
          clear o65 g65
          refine ⟨K65.out.c, ?_⟩
          go_frame
          refine h_all1 (i := 12) (by kernel_rfl) ?_
          refine o_step rfl (by rfl) ?_
          refine wp_append_rowC (C := attC) (.tmp 25) (.tmp 27) 53 rfl (wr.heap.size + 1) 61 j2 (av noAtt) 48 Tryz.underlying53 hj2 hj20 hj21 hj22 rfl (.slice (some ⟨q63, 0, none⟩) 0 0) 0 [] rfl P65_9.out _ zst rfl (HOK.out _ K65.out.b).s (by have := HS2.out; unfold maxLen; omega) (by have := HS2.out; omega) (by have := K65.out.hi; omega) (fun v66 W66 o66 g66 => ?_)
          rw [Nat.zero_add, List.nil_append] at o66
          obtain ⟨x66, y66, rfl, -, -⟩ := own_shape o66
          have K66 := Lib.hid (K65.out.grown P65_9.out (Nat.lt_succ_self _) g66)
          have O66 := Lib.hid o66
          have P66_13 := Lib.hid (own_far2 P65_13.out P65_9.out (by decide) g66)
          have P66_8 := Lib.hid (own_far2 O65.out P65_9.out (by decide) g66)
          clear o66 g66
          refine ⟨K66.out.c, ?_⟩
          go_frame
          refine h_all1 (i := 16) (by kernel_rfl) ?_
          refine o_step rfl (by rfl) ?_
          refine wp_append_rowC (C := chC) (.tmp 29) (.tmp 31) 54 rfl (wr.heap.size + 1) 63 j3 (cv noChg) 56 Tryz.underlying54 hj3 hj30 hj31 hj32 rfl (.slice (some ⟨q53, 0, none⟩) 0 0) 0 [] rfl P66_13.out _ zpt rfl (HOK.out _ K66.out.b).p (by have := HS3.out; unfold maxLen; omega) (by have := HS3.out; omega) (by have := K66.out.hi; omega) (fun v67 W67 o67 g67 => ?_)
          rw [Nat.zero_add, List.nil_append] at o67
          obtain ⟨x67, y67, rfl, -, -⟩ := own_shape o67
          have K67 := Lib.hid (K66.out.grown P66_13.out (Nat.lt_succ_self _) g67)
          have O67 := Lib.hid o67
          have P67_8 := Lib.hid (own_far2 P66_8.out P66_13.out (by decide) g67)
          have P67_12 := Lib.hid (own_far2 O66.out P66_13.out (by decide) g67)
          clear o67 g67
          refine ⟨K67.out.c, ?_⟩
          go_frame
          refine h_val (i := 17) (v := .agg (opcs zk zn x65 zrs.length y65 x66 zst.length y66 x67 zpt.length y67)) rfl (by kernel_rfl) (by kernel_rfl) (by kernel_rfl) (fun _ _ _ h => h) (by rfl) (fun wz hS => ?_) K67.out.c ?_
          · skip
            go_simp
          go_frame
          refine h_all1 (i := 18) (by kernel_rfl) ?_
          refine o_step rfl (by rfl) ?_
          refine wp_do (v := .slice (some ⟨W67.heap.size, 0, none⟩) 1 1) (w' := W67.alloc (.cells (opcs zk zn x65 zrs.length y65 x66 zst.length y66 x67 zpt.length y67) 56)) (by go_simp) ?_
          have KB := Lib.hid (K67.out.below (kbelow_one W67 (.cells (opcs zk zn x65 zrs.length y65 x66 zst.length y66 x67 zpt.length y67) 56)))
          have HOW := Lib.hid (HROW.out _ KB.out.b)
          have HZO := Lib.hid (op_new (k := zk) (n := zn) (rs := zrs) (show World.ownsRow W67 _ 21 1 _ _ _ from by have := P67_8.out; rwa [fl_intC] at this) P67_12.out O67.out HWB.out (kbelow_one W67 (.cells (opcs zk zn x65 zrs.length y65 x66 zst.length y66 x67 zpt.length y67) 56)) (Nat.le_succ _) (Nat.le_succ _) (Nat.le_succ _))
          have HZN := Lib.hid (fun g (hg : (Value.slice x65 zrs.length y65).ownBlock = some g) => (Nat.le_of_succ_le (own_base P67_8.out hg) : wr.heap.size ≤ g))
          refine ⟨KB.out.c, ?_⟩
          go_frame
          refine h_all1 (i := 19) (by kernel_rfl) ?_
          refine o_step rfl (by rfl) ?_
          refine wp_append_lies _ (.tmp 16) (.tmp 34) 23 rfl 0 56 i0 _ 5 88 Tryz.underlying23 hi hz0 hz1 hz2 rfl (by decide) (.slice va k vc) k (fl ozC ys) rfl HOW.out ⟨W67.heap.size, 0, none⟩ 1 1 (ozC.c ⟨zk, zn, x65, y65, zrs, x66, y66, zst, x67, y67, zpt⟩) rfl rfl (World.news_of_block (heap_alloc_new _ _)) (ozC.one _) (by decide) (by unfold maxLen; omega) (by omega) (Nat.zero_le _) _ rfl ?_
          intro g cap w4 hown4 hgrow4 hat4 hlt4
          have NX := Lib.hid (HR.out.next rfl KB.out.b HZO.out HZN.out hgrow4 hown4 hat4 HYL.out (HEQ.out _ rfl))
          refine ⟨kept_box HR.out KB.out hgrow4, ?_⟩
          go_frame
          refine h_val (i := 20) (v := .slice (some ⟨g, 0, none⟩) (k + 1) cap) rfl (by kernel_rfl) (by kernel_rfl) (by kernel_rfl) (fun _ _ _ h => h) (by rfl) (fun wz hS => ?_) (kept_box HR.out KB.out hgrow4) ?_
          · skip
            go_simp
          go_frame
          refine h_done (by kernel_rfl) ?_
          go_wp2
          go_roundw
          case rel => exact ⟨k + 1, _, _, _, HLT.out, by rw [List.length_append, HYL.out]; rfl, rfl, by go_num, NX⟩
          case measure => have := HLT.out; simp [intOf]; omega
    · obtain rfl : k = zs.length := by omega
      go_wp2
      go_ret
      have hq := HR.out.eq
      rw [List.take_length] at hq
      exact ⟨_, ys, rfl, hq, HR.out.own, HR.out.bel⟩
end Go.Proofs.YtohgopibimgjfaaGreat

/- N10: an op's length, two that are alike, settled -/
namespace Go.Proofs.YtohgopibimgjfaaGreat
open Go.RowKit
set_option linter.unusedVariables false
set_option maxRecDepth 100000

theorem length_any (l : Int) (z : Oz) (w : World) (hl : lenN z.o = l) :
    Calls Tryz.prog 74 #[z.v] w fun e w' => e = .returned (.int .i64 l) ∧ Below w.heap.size w w' := by
  have HB := Lib.hid (kbelow_one w (.cells z.cs 56))
  unfold lenN Oz.o at hl
  obtain ⟨zk, zn, zra, zrc, zrs, zsa, zsc, zst, zpa, zpc, zpt⟩ := z
  simp only at hl
  by_cases h2 : zk = 2
  · subst h2
    rw [if_pos rfl] at hl
    subst hl
    go_enter Tryz.func74, Tryz.ntmps74
    go_wp2
    go_ret
    exact ⟨rfl, HB.out⟩
  have e2 : (zk == 2) = false := by simpa using h2
  rw [if_neg h2] at hl
  by_cases h1 : zk = 1
  · subst h1
    rw [if_pos (.inl rfl)] at hl
    subst hl
    clear h2
    go_enter Tryz.func74, Tryz.ntmps74
    go_wp2
    go_ret
    exact ⟨rfl, HB.out⟩
  have e1 : (zk == 1) = false := by simpa using h1
  by_cases h3 : zk = 3
  · subst h3
    rw [if_pos (.inr rfl)] at hl
    subst hl
    clear h2 h1
    go_enter Tryz.func74, Tryz.ntmps74
    go_wp2
    go_ret
    exact ⟨rfl, HB.out⟩
  have e3 : (zk == 3) = false := by simpa using h3
  rw [if_neg (by omega)] at hl
  subst hl
  clear h1 h2 h3
  go_enter Tryz.func74, Tryz.ntmps74
  go_wp2
  go_ret
  exact ⟨rfl, HB.out⟩

/-- An op without its length. -/
def bare (z : Oz) : Oz := ⟨z.k, 0, none, 0, [], z.sa, z.sc, z.st, z.pa, z.pc, z.pt⟩
theorem bare_eq {y z : Oz} : (bare y).o = (bare z).o ↔ Alike y.o z.o := by
  rw [opn_eq]
  exact ⟨fun h => ⟨h.1, h.2.2.2.1, h.2.2.2.2⟩, fun h => ⟨h.1, rfl, rfl, h.2.1, h.2.2⟩⟩
theorem bare_ok {w : World} {z : Oz} (h : OpOk w z) : OpOk w (bare z) := ⟨ints_nil _ _, h.s, h.p⟩
theorem alike_any (b : Bool) (y z : Oz) (w : World) (hy : OpOk w y) (hz : OpOk w z) (hb : decide (Alike y.o z.o) = b) :
    Calls Tryz.prog 37 #[y.v, z.v] w fun e w' => e = .returned (.bool b) ∧ Below w.heap.size w w' := by
  have HQ := Lib.hid (fun (u v : Value) W (h1 : Orow W u [bare y]) (h2 : Orow W v [bare z]) => (osame_any u v [bare y] [bare z] W h1 h2).mono fun e w' h => (⟨by rw [h.1, ← hb]; congr 2; rw [decide_eq_decide]; exact ⟨fun h => bare_eq.1 (by simpa using h), fun h => by simpa using bare_eq.2 h⟩, h.2⟩ : e = .returned (.bool b) ∧ Below W.heap.size W w'))
  have HB := Lib.hid (below_add (kbelow_two w (.cells (bare y).cs 56) (.cells (bare z).cs 56)) (kbelow_two ((w.alloc (.cells (bare y).cs 56)).alloc (.cells (bare z).cs 56)) (.cells (bare y).cs 56) (.cells (bare z).cs 56)) (by simp; omega))
  have hb2 := kbelow_two w (.cells (bare y).cs 56) (.cells (bare z).cs 56)
  have HU := Lib.hid ((orow_one _ (bare y) 56 ((bare_ok hy).below hb2)).below (kbelow_one _ (.cells (bare z).cs 56)))
  have HV := Lib.hid (orow_one _ (bare z) 56 (((bare_ok hz).below hb2).below (kbelow_one _ (.cells (bare y).cs 56))))
  simp only [World.size_alloc] at HU HV
  clear hy hz hb hb2
  go_enter Tryz.func37, Tryz.ntmps37
  go_wp2_with (go_at_call 73; refine (HQ.out _ _ _ HU.out HV.out).mono ?_; rintro e w1 ⟨rfl, hb⟩; have HB1 := Lib.hid (below_add HB.out hb HB.out.size); clear hb)
  go_ret
  exact ⟨rfl, HB1.out⟩

/-- Settled: the last op left out, if it is idle. -/
def lastI (zs : List Oz) : Bool := match zs.getLast? with
  | some z => decide (z.k = 1) && decide (z.pt.length = 0)
  | none => false
def settleZ (zs : List Oz) : List Oz := if lastI zs then zs.take (zs.length - 1) else zs
theorem settleZ_len (zs : List Oz) : (settleZ zs).length = if lastI zs then zs.length - 1 else zs.length := by
  unfold settleZ
  split
  · rw [List.length_take]; omega
  · rfl
theorem settleZ_o (zs : List Oz) : (settleZ zs).map Oz.o = (settleR (zs.map Oz.o).reverse).reverse := by
  have key : ∀ r : List Oz, (settleZ r.reverse).map Oz.o = (settleR (r.map Oz.o)).reverse := fun r => by
    cases r with
    | nil => rfl
    | cons z r =>
      have e : (z :: r).reverse = r.reverse ++ [z] := by simp
      have hl : lastI (r.reverse ++ [z]) = (decide (z.k = 1) && decide (z.pt.length = 0)) := by simp [lastI]
      unfold settleZ
      rw [e, hl, List.map_cons]
      by_cases hi : Idle z.o
      · have hp : z.pt = [] := hi.2
        have h1 : z.k = 1 := hi.1
        rw [settleR_yes (r.map Oz.o) hi, if_pos (by simp [h1, hp])]
        simp
      · rw [settleR_no (r.map Oz.o) hi, if_neg (fun h => hi (by simp only [Bool.and_eq_true, decide_eq_true_eq] at h; exact ⟨h.1, List.eq_nil_of_length_eq_zero h.2⟩))]
        simp
  have := key zs.reverse
  rw [List.reverse_reverse, List.map_reverse] at this
  exact this
theorem settled_any (a : Option Addr) (c : Nat) (zs : List Oz) (w : World) (h : Orow w (.slice a zs.length c) zs) :
    Calls Tryz.prog 36 #[.slice a zs.length c] w fun e w' => e = .returned (.slice a (settleZ zs).length c) ∧ w' = w := by
  have hl := h.len
  rw [settleZ_len]
  by_cases h0 : 0 < zs.length
  rotate_left
  · obtain rfl : zs = [] := List.eq_nil_of_length_eq_zero (by omega)
    clear h h0
    go_enter Tryz.func36, Tryz.ntmps36
    go_wp2
    go_ret
    exact ⟨rfl, rfl⟩
  obtain ⟨b, off, rfl, -, hcap, hm, -, hat⟩ := h.row.ats h0
  obtain ⟨c0, c1, c2, c3, c4⟩ := hat (zs.length - 1) (by omega)
  have hli : lastI zs = (decide (zs[zs.length - 1].k = 1) && decide (zs[zs.length - 1].pt.length = 0)) := by
    unfold lastI
    rw [List.getLast?_eq_getElem?, List.getElem?_eq_getElem (by omega)]
  rw [hli]
  clear hli h hat
  generalize zs[zs.length - 1] = z at *
  obtain ⟨n, hn⟩ : ∃ n, zs.length = n + 1 := ⟨zs.length - 1, by omega⟩
  rw [hn] at hcap hl ⊢
  rw [show zs.length - 1 = n by omega] at c0 c1 c2 c3 c4
  clear hn h0
  have e1 : (((n + 1 : Nat) : Int)) = (n : Int) + 1 := by omega
  have e2 : IntKind.i64.wrap (n : Int) = (n : Int) := by rw [IntKind.wrap_i64]; omega
  unfold maxLen at hm
  by_cases hk : z.k = 1
  rotate_left
  · have q1 : (z.k == 1) = false := by simpa using hk
    rw [decide_eq_false hk]
    clear hk
    go_enter Tryz.func36, Tryz.ntmps36
    go_wp2
    go_ret
    exact ⟨rfl, rfl⟩
  have q1 : (z.k == 1) = true := by simpa using hk
  rw [decide_eq_true hk]
  clear hk
  by_cases hp : z.pt.length = 0
  · rw [decide_eq_true hp]
    have q2 : ((z.pt.length : Int) == 0) = true := by simp [hp]
    clear hp
    go_enter Tryz.func36, Tryz.ntmps36
    go_wp2
    go_ret
    exact ⟨rfl, rfl⟩
  · rw [decide_eq_false hp]
    have q2 : ((z.pt.length : Int) == 0) = false := by simpa using hp
    clear hp
    go_enter Tryz.func36, Tryz.ntmps36
    go_wp2
    go_ret
    exact ⟨rfl, rfl⟩

/-! ### an op of a row of the call's own turned -/
theorem Ap.symm {y z : Oz} (h : Ap y z) : Ap z y := fun g hg hg2 => h g hg2 hg
theorem Oown.turn {F F' : Nat → Prop} {w w3 : World} {v : Value} {zs : List Oz} (h : Oown F w v zs) {g n c j : Nat} (hv : v = .slice (some ⟨g, 0, none⟩) n c) (hj : j < zs.length) (hO : Off (fun k => zs[j].rv.ownBlock = some k) w w3)
    (z' : Oz) (hz : OpOwn F' w3 z') (hF : ∀ k, F k → F' k) (hr : ∀ k, z'.rv.ownBlock = some k → zs[j].rv.ownBlock = some k ∨ w.heap.size ≤ k) (q : Nat) (u : Value) (hfl : (fl ozC zs).set (j * 5 + q) u = fl ozC (zs.set j z')) :
    Oown F' (w3.setCell ⟨g, j * 5 + q, none⟩ u) v (zs.set j z') ∧ Off F w (w3.setCell ⟨g, j * 5 + q, none⟩ u) := by
  subst hv
  have hyj := h.own _ (List.getElem_mem hj)
  have hrow3 : w3.ownsRow 0 56 5 (.slice (some ⟨g, 0, none⟩) n c) zs.length (fl ozC zs) := owns_kept h.row fun k hk => hO.block k (own_lt7 h.row hk) (fun hh => tag_ne hyj.r h.row (by decide) hh hk)
  have hn : n = zs.length := by
    obtain ⟨a, c', e, -, -⟩ := own_shape h.row
    injection e with _ e _
  subst hn
  have hG := grown_set (w := w3) (g := g) (o := j * 5 + q) u
  have hO2 : Off (fun k => k = g) w3 (w3.setCell ⟨g, j * 5 + q, none⟩ u) := Off.of_grown hG (fun k hk => by cases hk; rfl)
  have hO3 : Off (fun k => (Value.slice (some ⟨g, 0, none⟩) zs.length c).ownBlock = some k) w3 (w3.setCell ⟨g, j * 5 + q, none⟩ u) := hO2.mono (fun k hk => by rw [hk]; rfl)
  refine ⟨⟨?_, fun k hk => hF _ (h.f k hk), fun y hy => ?_, ?_⟩, ?_⟩
  · have := owns_set hrow3 (j := j * 5 + q) u
    rw [hfl] at this
    rw [List.length_set]
    exact this
  · obtain ⟨i, hi, rfl⟩ := List.mem_iff_getElem.1 hy
    rw [List.length_set] at hi
    by_cases hij : i = j
    · subst hij
      rw [List.getElem_set_self]
      exact hz.row hrow3 hO3
    · rw [List.getElem_set_ne (by omega)]
      have hyi := h.own _ (List.getElem_mem hi)
      have hap : Ap zs[j] zs[i] := by
        rcases Nat.lt_or_ge i j with hh | hh
        · exact (List.pairwise_iff_getElem.1 h.ap i j hi hj hh).symm
        · exact List.pairwise_iff_getElem.1 h.ap j i hj hi (by omega)
      have h3 : OpOwn F w3 zs[i] := hyi.kept (fun k hk => hO.block k (own_lt7 hyi.r hk) (fun hh => hap k hh hk)) (fun k hk => hO.block k (own_lt7 hyi.s hk) (fun hh => tag_ne hyj.r hyi.s (by decide) hh hk)) (fun k hk => hO.block k (own_lt7 hyi.p hk) (fun hh => tag_ne hyj.r hyi.p (by decide) hh hk))
      exact (h3.mono hF).row hrow3 hO3
  · rw [List.pairwise_iff_getElem]
    intro i1 i2 h1 h2 hlt
    rw [List.length_set] at h1 h2
    have hap : ∀ i (hi : i < zs.length), i ≠ j → Ap zs[i] z' := fun i hi hij k hk hk2 => by
      rcases hr k hk2 with hh | hh
      · rcases Nat.lt_or_ge i j with hl | hl
        · exact List.pairwise_iff_getElem.1 h.ap i j hi hj hl k hk hh
        · exact List.pairwise_iff_getElem.1 h.ap j i hj hi (by omega) k hh hk
      · have := own_lt7 (h.own _ (List.getElem_mem hi)).r hk
        omega
    by_cases e1 : i1 = j
    · subst e1
      rw [List.getElem_set_self, List.getElem_set_ne (by omega)]
      exact (hap i2 (by simpa using h2) (by omega)).symm
    · rw [List.getElem_set_ne (by omega)]
      by_cases e2 : i2 = j
      · subst e2
        rw [List.getElem_set_self]
        exact hap i1 (by simpa using h1) e1
      · rw [List.getElem_set_ne (by omega)]
        exact List.pairwise_iff_getElem.1 h.ap i1 i2 h1 h2 hlt
  · exact (hO.mono (fun k hk => hyj.fr k hk)).seq (hO2.mono (fun k hk => by rw [hk]; exact h.f g rfl))
theorem fl_turn {zs : List Oz} {j : Nat} (hj : j < zs.length) (q : Nat) (hq : q < 5) (u : Value) (z' : Oz) (h : (ozC.c zs[j]).set q u = ozC.c z') : (fl ozC zs).set (j * 5 + q) u = fl ozC (zs.set j z') := by
  have e : zs = zs.take j ++ zs[j] :: zs.drop (j + 1) := by rw [List.getElem_cons_drop, List.take_append_drop]
  have hl : (zs.take j).length = j := by rw [List.length_take]; omega
  have e2 : zs.set j z' = zs.take j ++ z' :: zs.drop (j + 1) := by
    rw [List.set_eq_take_append_cons_drop, if_pos hj]
  rw [e2, fl_app, fl_cons]
  have e3 : fl ozC zs = fl ozC (zs.take j) ++ (ozC.c zs[j] ++ fl ozC (zs.drop (j + 1))) := by
    conv => lhs; rw [e]
    rw [fl_app, fl_cons]
  have hfl : (fl ozC (zs.take j)).length = j * 5 := by rw [fl_len, hl]; rfl
  rw [e3, List.set_append_right _ _ (by rw [hfl]; omega), hfl, Nat.add_sub_cancel_left, List.set_append_left _ _ (by rw [ozC.len]; exact hq), h]
end Go.Proofs.YtohgopibimgjfaaGreat

/- N11: an op made longer -/
namespace Go.Proofs.YtohgopibimgjfaaGreat
open Go.RowKit
set_option linter.unusedVariables false
set_option maxRecDepth 100000

/-- What is asked of the two. -/
structure Lg (y z : Oz) : Prop where
  k : y.k = z.k
  r : y.k = 2 → 0 < z.rs.length ∧ y.rs.length + z.rs.length ≤ 100663296
  n : y.k ≠ 2 → 1 ≤ y.n ∧ y.n ≤ 9223372036854775807 ∧ 1 ≤ z.n ∧ z.n ≤ 9223372036854775807
theorem grown_keep {w w' : World} {row : Option Nat} (hg : w.grownBy w' row) {g o : Nat} {u : Value} (hc : w.cell? ⟨g, o, none⟩ = some u) (hf : w.frozen? ⟨g, o, none⟩ = false) (hn : some g ≠ row) : w'.cell? ⟨g, o, none⟩ = some u ∧ w'.frozen? ⟨g, o, none⟩ = false := by
  have e := hg.block g (World.block_lt_of_cell? _ _ hc) hn
  simp only [World.cell?, World.frozen?, e] at *
  exact ⟨hc, hf⟩
set_option maxHeartbeats 2000000 in
theorem lengthen_any {F : Nat → Prop} (g n c j : Nat) (zs : List Oz) (z : Oz) (w : World) (h : Oown F w (.slice (some ⟨g, 0, none⟩) n c) zs) (hj : j < zs.length) (hz : OpOk w z) (hl : Lg zs[j] z) :
    Calls Tryz.prog 75 #[.pointer (some ⟨g, j * 5, none⟩), z.v] w fun e w' => e = .returned (.tuple #[]) ∧ ∃ y', y'.o = long zs[j].o z.o ∧ Oown (fun k => F k ∨ w.heap.size ≤ k) w' (.slice (some ⟨g, 0, none⟩) n c) (zs.set j y') ∧ Off F w w' := by
  have HH := Lib.hid h
  obtain ⟨bb, off, e, -, hcap, hm, hbl, hat⟩ := h.orow.row.ats (by omega)
  injection e with e
  injection e with e1 e2
  subst e1 e2
  have hat0 := hat j hj
  rw [Nat.zero_add] at hat0
  have hfz : w.frozen? ⟨g, j * 5 + 1, none⟩ = false ∧ w.frozen? ⟨g, j * 5 + 2, none⟩ = false := by
    obtain ⟨cur, hcur⟩ := own_tag h.row rfl
    have : Cb g 56 cur w := hcur
    exact ⟨this.frozen _, this.frozen _⟩
  have hown := h.own _ (List.getElem_mem hj)
  have HT1 := Lib.hid (fun q => fl_turn hj q)
  have HTR := Lib.hid (fun w3 hO z' hz' hr q u hfl => Oown.turn (F' := fun k => F k ∨ w.heap.size ≤ k) HH.out rfl hj (w3 := w3) hO z' hz' (fun k h => .inl h) hr q u hfl)
  clear hat
  generalize zs[j] = y at *
  obtain ⟨c0, c1, c2, c3, c4⟩ := hat0
  obtain ⟨i0, hi, hz0, hz1, hz2⟩ := info_i32
  by_cases hk : y.k = 2
  · obtain ⟨hzr, hsum⟩ := hl.r hk
    have q1 : (y.k == 2) = true := by simpa using hk
    obtain ⟨bz, oz, hra, -, -, -, hcz⟩ := hz.r.opened hzr
    obtain ⟨zk, zn, zra, zrc, zrs, zsa, zsc, zst, zpa, zpc, zpt⟩ := z
    simp only at hra hcz hzr hsum
    subst hra
    have HB := Lib.hid ((kbelow_one w (.cells (opcs zk zn (some ⟨bz, oz, none⟩) zrs.length zrc zsa zst.length zsc zpa zpt.length zpc) 56)).drew)
    have HOW := Lib.hid (owns_below hown.r HB.out)
    have HCZ := Lib.hid (show ∀ (i : Nat) u, (zrs.map (Value.int .i32))[i]? = some u → (w.alloc (.cells (opcs zk zn (some ⟨bz, oz, none⟩) zrs.length zrc zsa zst.length zsc zpa zpt.length zpc) 56)).drew.cell? ((⟨bz, oz, none⟩ : Addr).add i) = some u from fun i u hu => by
      have hil : i < zrs.length := by have := (List.getElem?_eq_some_iff.1 hu).1; simpa using this
      have hc := hcz i hil
      rw [Go.WideShapes.add_plain, HB.out.cell (World.block_lt_of_cell? _ _ hc), hc, ← hu]
      simp [List.getD, hil])
    have hc2 := (HB.out.cell (p := ⟨g, j * 5 + 2, none⟩) hbl).trans c2
    have hf2 := (HB.out.frozen (p := ⟨g, j * 5 + 2, none⟩) hbl).trans hfz.2
    have HO := Lib.hid (show ∀ w3, (w.alloc (.cells (opcs zk zn (some ⟨bz, oz, none⟩) zrs.length zrc zsa zst.length zsc zpa zpt.length zpc) 56)).drew.grownBy w3 y.rv.ownBlock → Off (fun k => y.rv.ownBlock = some k) w w3 from fun w3 hg => (Off.of_below HB.out).seq (Off.of_grown hg (fun g hg => hg)))
    have HNG := Lib.hid (show some g ≠ y.rv.ownBlock from fun e => tag_ne hown.r HH.out.row (by decide) e.symm rfl)
    have HYS := Lib.hid (And.intro hown.s (And.intro hown.p (And.intro hown.fs (And.intro hown.fp hown.fr))))
    clear hcz hown hz hl
    go_enter Tryz.func75, Tryz.ntmps75
    go_wp2
    go_region_law
      ((refine step_append_lies _ (by rfl) (.tmp 13) (.tmp 15) 52 (by rfl) 0 21 i0 (.int .i32 0) 1 4 Tryz.underlying52 hi hz0 hz1 hz2 (by rfl) (by decide) y.rv y.rs.length (y.rs.map (Value.int .i32)) (by rfl) HOW.out ⟨bz, oz, none⟩ zrs.length zrc (zrs.map (Value.int .i32)) (by rfl) (by simp) HCZ.out (ints_cells _) hzr (by unfold maxLen; omega) (by omega) (Nat.zero_le _) _ rfl ?_; intro g3 cap w3 hown3 hgrow3 hat3 hlt3; obtain ⟨hwc, hwf⟩ := grown_keep hgrow3 hc2 hf2 HNG.out))
    all_goals
      go_wp2
      (try simp only [Exit.inBlock, Exit.then])
      refine bodyPost_ret (results_none rfl _ _ _) rfl ?_
      have hs := HYS.out
      have hlen : (y.rs ++ zrs).length = y.rs.length + zrs.length := List.length_append
      refine ⟨rfl, ⟨y.k, y.n, some ⟨g3, 0, none⟩, cap, y.rs ++ zrs, y.sa, y.sc, y.st, y.pa, y.pc, y.pt⟩, ?_, ?_⟩
      · unfold long Oz.o
        rw [if_pos hk]
      · have hz' : OpOwn (fun k => F k ∨ w.heap.size ≤ k) w3 ⟨y.k, y.n, some ⟨g3, 0, none⟩, cap, y.rs ++ zrs, y.sa, y.sc, y.st, y.pa, y.pc, y.pt⟩ := by
          refine ⟨?_, own_far2 (owns_below hs.1 HB.out) HOW.out (by decide) hgrow3, own_far2 (owns_below hs.2.1 HB.out) HOW.out (by decide) hgrow3, fun k hk => ?_, fun k hk => .inl (hs.2.2.1 k hk), fun k hk => .inl (hs.2.2.2.1 k hk)⟩
          · simp only [Oz.rv, hlen, List.map_append]
            exact hown3
          · injection hk with hk
            subst hk
            rcases hat3 with hh | hh
            · exact .inl (hs.2.2.2.2 _ hh)
            · exact .inr (by rw [hh]; simp)
        have hr' : ∀ k, (Oz.rv ⟨y.k, y.n, some ⟨g3, 0, none⟩, cap, y.rs ++ zrs, y.sa, y.sc, y.st, y.pa, y.pc, y.pt⟩).ownBlock = some k → y.rv.ownBlock = some k ∨ w.heap.size ≤ k := fun k hk => by
          injection hk with hk
          subst hk
          rcases hat3 with hh | hh
          · exact .inl hh
          · exact .inr (by rw [hh]; simp)
        have hfin := HTR.out w3 (HO.out w3 hgrow3) _ hz' hr' 2 (.slice (some ⟨g3, 0, none⟩) (y.rs.length + zrs.length) cap) (HT1.out 2 (by decide) _ _ (by rw [← hlen]; rfl))
        exact hfin
  · obtain ⟨hy1, hy2, hz3, hz4⟩ := hl.n hk
    have q1 : (y.k == 2) = false := by simpa using hk
    obtain ⟨zk, zn, zra, zrc, zrs, zsa, zsc, zst, zpa, zpc, zpt⟩ := z
    simp only at hz3 hz4
    have HB := Lib.hid ((kbelow_one w (.cells (opcs zk zn zra zrs.length zrc zsa zst.length zsc zpa zpt.length zpc) 56)).drew)
    have hc2 := (HB.out.cell (p := ⟨g, j * 5 + 1, none⟩) hbl).trans c1
    have hf2 := (HB.out.frozen (p := ⟨g, j * 5 + 1, none⟩) hbl).trans hfz.1
    have w1 : IntKind.i64.wrap (9223372036854775807 - y.n) = 9223372036854775807 - y.n := by rw [IntKind.wrap_i64]; omega
    have hm1 : IntKind.i64.wrap (y.n + min zn (9223372036854775807 - y.n)) = y.n + min zn (9223372036854775807 - y.n) := by rw [IntKind.wrap_i64]; omega
    have HFIN := Lib.hid (fun m (hm : m = y.n + min zn (9223372036854775807 - y.n)) => (show ∃ y' : Oz, y'.o = long y.o ⟨zk, zn, zrs, zst, zpt⟩ ∧ Oown (fun k => F k ∨ w.heap.size ≤ k) ((w.setCell ⟨g, j * 5 + 1, none⟩ (.int .i64 m)).alloc (.cells (opcs zk zn zra zrs.length zrc zsa zst.length zsc zpa zpt.length zpc) 56)).drew (.slice (some ⟨g, 0, none⟩) n c) (zs.set j y') ∧ Off F w ((w.setCell ⟨g, j * 5 + 1, none⟩ (.int .i64 m)).alloc (.cells (opcs zk zn zra zrs.length zrc zsa zst.length zsc zpa zpt.length zpc) 56)).drew from by
      obtain ⟨q2, q3⟩ := HTR.out w (Off.refl _ _) ⟨y.k, m, y.ra, y.rc, y.rs, y.sa, y.sc, y.st, y.pa, y.pc, y.pt⟩ ⟨hown.r, hown.s, hown.p, fun k hk => .inl (hown.fr k hk), fun k hk => .inl (hown.fs k hk), fun k hk => .inl (hown.fp k hk)⟩ (fun k hk => .inl hk) 1 (.int .i64 m) (HT1.out 1 (by decide) _ _ rfl)
      have hb3 := (kbelow_one (w.setCell ⟨g, j * 5 + 1, none⟩ (.int .i64 m)) (.cells (opcs zk zn zra zrs.length zrc zsa zst.length zsc zpa zpt.length zpc) 56)).drew
      exact ⟨⟨y.k, m, y.ra, y.rc, y.rs, y.sa, y.sc, y.st, y.pa, y.pc, y.pt⟩, by unfold long Oz.o; rw [if_neg hk, hm], q2.below hb3, q3.below_r hb3⟩))
    clear hown hz hl hfz
    go_enter Tryz.func75, Tryz.ntmps75
    go_wp2
    go_region_law (fail)
    all_goals
      go_wp2
      go_end0
      exact ⟨rfl, HFIN.out _ (by first | exact hm1 | rfl)⟩
end Go.Proofs.YtohgopibimgjfaaGreat

/- N12: an op laid in: behind the last one, ahead of it -/
namespace Go.Proofs.YtohgopibimgjfaaGreat
open Go.RowKit
set_option linter.unusedVariables false
set_option maxRecDepth 100000

/-- What comes of it. -/
structure InsP (F : Nat → Prop) (w : World) (ys : List Oz) (e : Ending) (w' : World) : Prop where
  ex : ∃ v', e = .returned v' ∧ Oown (fun k => F k ∨ w.heap.size ≤ k) w' v' ys ∧ Off F w w'
theorem insert_end {F : Nat → Prop} (a : Option Addr) (c : Nat) (zs : List Oz) (gu uc : Nat) (z : Oz) (w : World) (h : Oown F w (.slice a zs.length c) zs) (hu : Oown F w (.slice (some ⟨gu, 0, none⟩) 1 uc) [z]) (hap : ∀ y ∈ zs, Ap y z) (hl : zs.length ≤ 100663296) :
    Calls Tryz.prog 76 #[.slice a zs.length c, .int .i64 zs.length, .slice (some ⟨gu, 0, none⟩) 1 uc] w (InsP F w (zs ++ [z])) := by
  obtain ⟨i0, hi, hz0, hz1, hz2⟩ := info_op
  obtain ⟨a', c', e, ha, hlc⟩ := h.shape
  injection e with e1 e2 e3
  subst e1 e3
  have hcm : c ≤ maxLen := by
    rcases h.row.2 with ⟨hv, hn⟩ | ⟨g, cap, cur, hv, hB, hg, hc, hm, hs, ht⟩
    · injection hv with _ _ e3; rw [e3]; simp [maxLen]
    · injection hv with _ _ e3; rw [e3]; exact hm
  have HH := Lib.hid h
  obtain ⟨bb, off, e, -, -, -, hbl, hat⟩ := hu.orow.row.ats (by simp)
  injection e with e
  injection e with e1 e2
  subst e1 e2
  have HN := Lib.hid (show ∀ j u, (ozC.c z)[j]? = some u → w.cell? ((⟨gu, 0, none⟩ : Addr).add j) = some u from fun j u hj => by
    have := (Row.opened (C := ozC) hu.orow.row (by simp))
    obtain ⟨b, off, e, -, -, -, -, -, hcc⟩ := this
    injection e with e
    injection e with e1 e2
    subst e1 e2
    rw [Go.WideShapes.add_plain]
    exact hcc j u (by rw [fl_one]; exact hj))
  have HZ := Lib.hid (And.intro (hu.own z (by simp)) hap)
  have HFIN := Lib.hid (show ∀ (g cap : Nat) (w4 : World), w4.ownsRow 0 56 5 (.slice (some ⟨g, 0, none⟩) (zs.length + 1) cap) (zs.length + 1) (fl ozC zs ++ ozC.c z) → w.grownBy w4 (Value.slice a zs.length c).ownBlock → ((Value.slice a zs.length c).ownBlock = some g ∨ g = w.heap.size) → InsP F w (zs ++ [z]) (.returned (.slice (some ⟨g, 0, none⟩) (zs.length + 1) cap)) w4 from fun g cap w4 ho hg hat => ⟨_, rfl, HH.out.more (fun k hk => .inl hk) hg (HZ.out.1.mono fun k hk => .inl hk) HZ.out.2 ho (fun q hq => by
      injection hq with hq
      subst hq
      rcases hat with hh | hh
      · exact .inl (HH.out.f _ hh)
      · exact .inr (by rw [hh]; exact Nat.le_refl _)), Off.of_grown hg (fun q hq => HH.out.f q hq)⟩)
  clear h hu hap hat
  unfold maxLen at hcm
  have hm1 : (1 : Nat) ≤ uc ∨ True := .inr trivial
  obtain ⟨n, hn⟩ : ∃ n, zs.length = n := ⟨_, rfl⟩
  rw [hn] at HH HFIN hl hlc ⊢
  rcases ha with rfl | ⟨g0, rfl⟩
  · obtain ⟨rfl, rfl⟩ : n = 0 ∧ c = 0 := by
      rcases HH.out.row.2 with ⟨hv, h0⟩ | ⟨g, cap, cur, hv, -⟩
      · injection hv with _ e2 e3; exact ⟨e2, e3⟩
      · injection hv with e1; cases e1
    go_enter Tryz.func76, Tryz.ntmps76
    go_wp2_with (at_builtin; refine wpList_append_lies _ rfl (.tmp 23) (.tmp 24) 23 rfl 0 56 i0 _ 5 88 Tryz.underlying23 hi hz0 hz1 hz2 rfl (by decide) _ 0 (fl ozC zs) rfl (by have := HH.out.row; rwa [hn] at this) ⟨gu, 0, none⟩ 1 uc (ozC.c z) rfl rfl HN.out (ozC.one _) (by decide) (by unfold maxLen; omega) (by omega) (Nat.zero_le _) _ rfl ?_; intro g cap w4 hown4 hgrow4 hat4 hlt4)
    go_ret
    exact HFIN.out g cap w4 hown4 hgrow4 hat4
  · have hcn : n ≤ c := hlc
    go_enter Tryz.func76, Tryz.ntmps76
    go_wp2_with (at_builtin; refine wpList_append_lies _ rfl (.tmp 23) (.tmp 24) 23 rfl 0 56 i0 _ 5 88 Tryz.underlying23 hi hz0 hz1 hz2 rfl (by decide) _ n (fl ozC zs) rfl (by have := HH.out.row; rwa [hn] at this) ⟨gu, 0, none⟩ 1 uc (ozC.c z) rfl rfl HN.out (ozC.one _) (by decide) (by unfold maxLen; omega) (by omega) (Nat.zero_le _) _ rfl ?_; intro g cap w4 hown4 hgrow4 hat4 hlt4)
    all_goals
      go_ret
      exact HFIN.out g cap w4 hown4 hgrow4 hat4

/-- copy of rows whose elements have m cells: all is read before anything is written. -/
theorem run_copy_rowN {P : Program} (w : World) (dT sT ty elem : TypeId) (g o dLen dCap : Nat) (a : Addr) (sLen sCap m : Nat) (cur : Array Value) (t : TypeId) (cs : List Value)
    (hu : P.underlying dT = some (.slice elem)) (hs : (P.info? elem).map (·.size) = some m)
    (hg : w.heap[g]? = some (.cells cur t (0, 0))) (hn : cs.length = Nat.min sLen dLen * m)
    (hsrc : ∀ j v, cs[j]? = some v → w.cell? (a.add j) = some v) (hfit : o + cs.length ≤ cur.size) (h1 : ∀ v ∈ cs, v.oneCell' = true) :
    (Builtin.copy_ #[dT, sT] ty #[.slice (some ⟨g, o, none⟩) dLen dCap, .slice (some a) sLen sCap]).run P w =
      .ok (goInt (Nat.min sLen dLen)) (w.setRow g (cur.toList.take o ++ cs ++ cur.toList.drop (o + cs.length)).toArray) := by
  have hl := run_loadCells_list (P := P) w a cs hsrc
  have hst := run_storeCells_at P g o t cs 0 cur w hg (by simpa using hfit) h1
  cases hq : P.info? elem with
  | none => simp [hq] at hs
  | some i =>
    have hi : i.size = m := by simpa [hq] using hs
    simp [Builtin.copy_, run_underlying hu, Builtin.lenOf, Builtin.firstCells, sizeOf, typeInfo, hq, hi, ← hn, hl, hst]
theorem op_size5 : (Tryz.prog.info? 56).map (·.size) = some 5 := by kernel_rfl
end Go.Proofs.YtohgopibimgjfaaGreat

/- N13: an op laid in ahead of the last one, where there is room -/
namespace Go.Proofs.YtohgopibimgjfaaGreat
open Go.RowKit
set_option linter.unusedVariables false
set_option maxRecDepth 100000

theorem wpList_do {P : Program} {ops : Array Oper} {rest : List Oper} {o : Oper} {a : Act} {w w' : World} {v : Value} {Q : Exit → Act → World → Prop} (hg : o.guard = none) (hv : (execOp a.eval o).run P w = .ok (.value v) w') (h : wpList P ops Q rest (a.put o.dst v) w') : wpList P ops Q (o :: rest) a w :=
  wpList_plain hg fun _ hK => wp_do hv (hK _ _ h)
theorem step_do {P : Program} {ops : Array Oper} {o : Oper} {a : Act} {w w' : World} {v : Value} {K : Act → World → Prop} {Q : Exit → Act → World → Prop} {E : Prop} (hg : o.guard = none) (hv : (execOp a.eval o).run P w = .ok (.value v) w') (h : K (a.put o.dst v) w') :
    if Region.wanted o (yielded ops a.tmps) = true then Oper.wp P o a w K Q else E := by
  have hw : Region.wanted o (yielded ops a.tmps) = true := by simp [Region.wanted, hg]
  rw [if_pos hw]
  exact wp_do hv h
theorem exec_copy {P : Program} {o : Oper} {a : Act} {w w' : World} {v' : Value} (d s : Operand) (t t' : TypeId) (ho : o.op = .call { callee := .builtin .copy, args := #[d, s], argTypes := #[t, t'] }) (v u : Value) (hd : a.eval d = v) (hs : a.eval s = u)
    (hr : ∀ ty, (Builtin.copy_ #[t, t'] ty #[v, u]).run P w = .ok v' w') : (execOp a.eval o).run P w = .ok (.value v') w' := by
  have h := hr o.type
  simp [execOp, ho, resolve, invoke, builtin, hd, hs, h, Result.andThen]
/-- What lies in the row of the call's own, as a list. -/
theorem own_list {w : World} {e : TypeId} {size n c g : Nat} {xs : List Value} (h : w.ownsRow 0 e size (.slice (some ⟨g, 0, none⟩) n c) n xs) : ∃ cur, w.heap[g]? = some (.cells cur e (0, 0)) ∧ n ≤ c ∧ c ≤ maxLen ∧ cur.size = c * size ∧ ∃ R, cur.toList = xs ++ R := by
  rcases h.2 with ⟨hn, _⟩ | ⟨g', cap', cur, hv, hB, hg, hc, hm, hs, ht⟩
  · cases hn
  · injection hv with e1 e2 e3
    injection e1 with e1
    injection e1 with e1
    subst e1 e3
    exact ⟨cur, hg, hc, hm, hs, cur.toList.drop (n * size), by rw [← ht, List.take_append_drop]⟩
theorem own_of_list {w : World} {e : TypeId} {size n c g : Nat} {xs R : List Value} {cur : Array Value} (hg : w.heap[g]? = some (.cells cur e (0, 0))) (hn : n ≤ c) (hm : c ≤ maxLen) (hs : cur.size = c * size) (hl : cur.toList = xs ++ R) (hx : xs.length = n * size) : w.ownsRow 0 e size (.slice (some ⟨g, 0, none⟩) n c) n xs :=
  ⟨hx, .inr ⟨g, c, cur, rfl, Nat.zero_le _, hg, hn, hm, hs, by rw [hl, ← hx, List.take_left']; rfl⟩⟩
theorem op_sizeOf : ∀ w, (sizeOf 56).run Tryz.prog w = .ok 5 w := fun w => by
  obtain ⟨i0, hi, -, h1, -⟩ := info_op
  simp [sizeOf, typeInfo, hi, h1]
theorem shape_of {w : World} {g : Nat} {cur : Array Value} {e : TypeId} (h : w.heap[g]? = some (.cells cur e (0, 0))) : w.shape? g = some (e, cur.size) := by simp [World.shape?, h]

theorem Oown.insert {F : Nat → Prop} {w W : World} {v v' : Value} {zs : List Oz} {d z : Oz} (h : Oown F w v (zs ++ [d])) (hz : OpOwn F w z) (hap : ∀ y ∈ zs ++ [d], Ap y z) (hO : Off (fun k => v.ownBlock = some k) w W)
    (hr : W.ownsRow 0 56 5 v' (zs ++ [z, d]).length (fl ozC (zs ++ [z, d]))) (hf : ∀ k, v'.ownBlock = some k → F k ∨ w.heap.size ≤ k) : Oown (fun k => F k ∨ w.heap.size ≤ k) W v' (zs ++ [z, d]) := by
  have hrow := h.row
  have hp := List.pairwise_append.1 h.ap
  refine ⟨hr, hf, fun y hy => ?_, ?_⟩
  · have : y = z ∨ y ∈ zs ++ [d] := by
      simp only [List.mem_append, List.mem_cons, List.not_mem_nil, or_false] at hy ⊢
      rcases hy with hy | hy | hy
      · exact .inr (.inl hy)
      · exact .inl hy
      · exact .inr (.inr hy)
    rcases this with rfl | hy
    · exact (hz.mono fun k hk => .inl hk).row hrow hO
    · exact ((h.own y hy).mono fun k hk => .inl hk).row hrow hO
  · rw [List.pairwise_append]
    refine ⟨hp.1, ?_, fun y hy x hx => ?_⟩
    · rw [List.pairwise_cons]
      exact ⟨fun x hx => by obtain rfl := List.mem_singleton.1 hx; exact (hap x (by simp)).symm, List.pairwise_singleton _ _⟩
    · simp only [List.mem_cons, List.not_mem_nil, or_false] at hx
      rcases hx with rfl | rfl
      · exact hap y (by simp [hy])
      · exact hp.2.2 y hy x (by simp)
theorem off_row (w : World) (g : Nat) (cs : Array Value) : Off (fun k => k = g) w (w.setRow g cs) := ⟨rfl, rfl, rfl, by simp [World.setRow], fun k _ hk => setRow_other _ _ _ _ hk⟩
set_option maxHeartbeats 4000000 in
theorem insert_room {F : Nat → Prop} (g c : Nat) (zs : List Oz) (d : Oz) (gu uc : Nat) (z : Oz) (w : World) (h : Oown F w (.slice (some ⟨g, 0, none⟩) (zs.length + 1) c) (zs ++ [d])) (hu : Oown F w (.slice (some ⟨gu, 0, none⟩) 1 uc) [z]) (hap : ∀ y ∈ zs ++ [d], Ap y z) (hne : gu ≠ g) (hc : zs.length + 2 ≤ c) :
    Calls Tryz.prog 76 #[.slice (some ⟨g, 0, none⟩) (zs.length + 1) c, .int .i64 zs.length, .slice (some ⟨gu, 0, none⟩) 1 uc] w (InsP F w (zs ++ [z, d])) := by
  have hrow := h.row
  rw [List.length_append, List.length_singleton, fl_app, fl_one] at hrow
  obtain ⟨cur, hg, -, hcm, hcs, R, hL⟩ := own_list hrow
  have hurow := hu.row
  rw [List.length_singleton, fl_one] at hurow
  obtain ⟨curu, hgu, -, -, hcsu, Ru, hLu⟩ := own_list hurow
  have hP : (fl ozC zs).length = zs.length * 5 := fl_len ozC zs
  have hD : (ozC.c d).length = 5 := ozC.len d
  have hZ : (ozC.c z).length = 5 := ozC.len z
  have hcl : cur.size = zs.length * 5 + 5 + R.length := by
    have := congrArg List.length hL
    simp only [List.length_append, Array.length_toList] at this
    omega
  obtain ⟨R1, R2, hR, hR1⟩ : ∃ R1 R2, R = R1 ++ R2 ∧ R1.length = 5 := ⟨R.take 5, R.drop 5, (List.take_append_drop _ _).symm, by rw [List.length_take]; omega⟩
  subst hR
  obtain ⟨n, hn⟩ : ∃ n, zs.length = n := ⟨_, rfl⟩
  have hul := own_lt7 hurow rfl
  -- the two copies
  obtain ⟨cur1, hcur1⟩ : ∃ cur1, cur1 = (fl ozC zs ++ ozC.c d ++ (ozC.c d ++ R2)).toArray := ⟨_, rfl⟩
  obtain ⟨cur2, hcur2⟩ : ∃ cur2, cur2 = (fl ozC zs ++ ozC.c z ++ (ozC.c d ++ R2)).toArray := ⟨_, rfl⟩
  have hs1 : cur1.size = n * 5 + 5 + (5 + R2.length) := by rw [hcur1, List.size_toArray, List.length_append, List.length_append, List.length_append, hP, hD, hn]
  have hs2 : cur2.size = n * 5 + 5 + (5 + R2.length) := by rw [hcur2, List.size_toArray, List.length_append, List.length_append, List.length_append, hP, hD, hZ, hn]
  have hcA : ∀ (W : World) (hW : W.heap[g]? = some (.cells cur 56 (0, 0))) ty dc sc, (Builtin.copy_ #[23, 23] ty #[.slice (some ⟨g, (n + 1) * 5, none⟩) 1 dc, .slice (some ⟨g, n * 5, none⟩) 2 sc]).run Tryz.prog W = .ok (goInt 1) (W.setRow g cur1) := fun W hW ty dc sc => by
    have := run_copy_rowN (P := Tryz.prog) W 23 23 ty 56 g ((n + 1) * 5) 1 dc ⟨g, n * 5, none⟩ 2 sc 5 cur _ (ozC.c d) Tryz.underlying23 op_size5 hW (by rw [hD]; rfl) (fun j v hj => by
      have hj5 : j < 5 := by have := (List.getElem?_eq_some_iff.1 hj).1; omega
      rw [Go.WideShapes.add_plain, cell_of_row W g _ _ _ _ hW, ← Array.getElem?_toList, hL, List.append_assoc, List.getElem?_append_right (by rw [hP]; omega), hP, hn, Nat.add_sub_cancel_left, List.getElem?_append_left (by omega)]
      exact hj) (by rw [hD]; omega) (ozC.one d)
    rw [this]
    congr 2
    rw [hcur1, hL, hD]
    congr 1
    have e1 : (n + 1) * 5 = (fl ozC zs ++ ozC.c d).length := by rw [List.length_append, hP, hD, hn]; omega
    rw [e1, List.take_left', List.drop_append, List.drop_of_length_le (by omega)]
    · simp [hR1]
    · rfl
  have hcB : ∀ (W : World) (hW : W.heap[g]? = some (.cells cur1 56 (0, 0))) (hWu : W.heap[gu]? = some (.cells curu 56 (0, 0))) ty dc, (Builtin.copy_ #[23, 23] ty #[.slice (some ⟨g, n * 5, none⟩) 2 dc, .slice (some ⟨gu, 0, none⟩) 1 uc]).run Tryz.prog W = .ok (goInt 1) (W.setRow g cur2) := fun W hW hWu ty dc => by
    have := run_copy_rowN (P := Tryz.prog) W 23 23 ty 56 g (n * 5) 2 dc ⟨gu, 0, none⟩ 1 uc 5 cur1 _ (ozC.c z) Tryz.underlying23 op_size5 hW (by rw [hZ]; rfl) (fun j v hj => by
      have hj5 : j < 5 := by have := (List.getElem?_eq_some_iff.1 hj).1; omega
      rw [Go.WideShapes.add_plain, cell_of_row W gu _ _ _ _ hWu, ← Array.getElem?_toList, hLu, Nat.zero_add, List.getElem?_append_left (by omega)]
      exact hj) (by rw [hZ, hs1]; omega) (ozC.one z)
    rw [this]
    congr 2
    rw [hcur2, hcur1, hZ]
    congr 1
    have e2 : (fl ozC zs ++ ozC.c d ++ (ozC.c d ++ R2)).toArray.toList = fl ozC zs ++ (ozC.c d ++ (ozC.c d ++ R2)) := by simp
    have e3 : n * 5 = (fl ozC zs).length := by rw [hP, hn]
    rw [e2, e3, List.take_left', List.drop_append, List.drop_of_length_le (by omega)]
    · simp [hD]
    · rfl
  have hov : ∀ lb cb, (callFunc 111 #[.slice (some ⟨gu, 0, none⟩) 1 uc, .slice (some ⟨g, (n + 1) * 5, none⟩) lb cb]).run Tryz.prog w = .ok (.value (.bool false)) w := fun lb cb => by
    rw [run_callFunc_extern Tryz.func111 (by kernel_rfl) (by kernel_rfl) (by kernel_rfl) (e := Extern.SlicesOverlaps.overlaps #[23, 23] #[4]) (by kernel_rfl),
      Lib.run_overlaps_apart w 23 4 56 Tryz.underlying23 5 op_sizeOf ⟨gu, 0, none⟩ ⟨g, (n + 1) * 5, none⟩ 1 uc lb cb hne _ _ _ _ (shape_of hgu) (shape_of hg) (by omega) (by simp [World.frozen?, hgu]) (by simp [World.frozen?, hgu])]
    rfl
  have HFIN := Lib.hid (fun (W : World) (hW : W.heap[g]? = some (.cells cur2 56 (0, 0))) (hO : Off (fun k => k = g) w W) => (show InsP F w (zs ++ [z, d]) (.returned (.slice (some ⟨g, 0, none⟩) (n + 1 + 1) c)) W from
    ⟨_, rfl, Oown.insert h (hu.own z (by simp)) hap (hO.mono (fun k hk => by rw [hk]; rfl)) (by
      have e : (zs ++ [z, d]).length = n + 1 + 1 := by simp [hn]
      rw [e]
      exact own_of_list hW (by omega) hcm (by rw [hs2]; rw [hcl] at hcs; simp only [List.length_append] at hcs; omega) (R := R2) (by rw [hcur2]; simp [fl_app, fl_cons, fl_nil]) (by rw [fl_len, e]; rfl)) (fun k hk => .inl (h.f k hk)), hO.mono (fun k hk => by rw [hk]; exact h.f g rfl)⟩))
  have hc2 : n + 2 ≤ c := by omega
  have hcm2 : c ≤ 9223372036854775807 := by unfold maxLen at hcm; omega
  clear hcur1 hcur2 hrow hurow hP hD hZ hcl hR1 hs1 hs2 hL hLu hcs hcsu hcm hul h hu hap hc
  rw [hn]
  clear hn
  have e1 : ((n + 1 : Nat) : Int) = (n : Int) + 1 := by omega
  have w1 : IntKind.i64.wrap ((n : Int) + 1) = (n : Int) + 1 := by rw [IntKind.wrap_i64]; omega
  have w2 : IntKind.i64.wrap ((n : Int) + 1 + 1) = (n : Int) + 1 + 1 := by rw [IntKind.wrap_i64]; omega
  have b1 : ¬ ((c : Int) < (n : Int) + 1 + 1) := by omega
  have b2 : ¬ (c = n) := by omega
  have b3 : ¬ (c = n + 1) := by omega
  have b4 : (0 : Int) ≤ (n : Int) + 1 := by omega
  have b5 : (n : Int) ≤ (n : Int) + 1 := by omega
  have b6 : (n : Int) ≤ (n : Int) + 1 + 1 := by omega
  have e22 : n + 1 + 1 - n = 2 := by omega
  have mixed : Tryz.prog.follows Departure.mixedOrders = true := by kernel_rfl
  have hg1 : (w.drew.setRow g cur1).heap[g]? = some (.cells cur1 56 (0, 0)) := setRow_heap _ _ _ _ _ _ hg
  have hgu1 : (w.drew.setRow g cur1).heap[gu]? = some (.cells curu 56 (0, 0)) := (setRow_other _ _ _ _ hne).trans hgu
  go_enter Tryz.func76, Tryz.ntmps76
  go_wp2_with (simp only [hov])
  go_region_law_o (refine step_do rfl (exec_copy _ _ 23 23 rfl (.slice (some ⟨g, (n + 1) * 5, none⟩) 1 (c - (n + 1))) (.slice (some ⟨g, n * 5, none⟩) 2 (c - n)) (by simp [Act.eval, Act.put]) (by simp [Act.eval, Act.put]) (fun ty => hcA w.drew hg ty _ _)) ?_)
  go_wp2_with (at_builtin; refine wpList_do rfl (exec_copy _ _ 23 23 rfl _ _ rfl rfl (fun ty => hcB _ hg1 hgu1 ty _)) ?_)
  go_ret
  exact HFIN.out _ (setRow_heap _ _ _ _ _ _ hg1) ((Off.of_below (S := fun k => k = g) (Below.refl w.heap.size w).drew).seq ((off_row _ g cur1).seq (off_row _ g cur2)))
end Go.Proofs.YtohgopibimgjfaaGreat

/- N14: an op laid in ahead of the last one, where there is no room -/
namespace Go.Proofs.YtohgopibimgjfaaGreat
open Go.RowKit
set_option linter.unusedVariables false
set_option maxRecDepth 100000

theorem exec_append {P : Program} {o : Oper} {a : Act} {w w' : World} {v' : Value} (d s : Operand) (t t' : TypeId) (ho : o.op = .call { callee := .builtin .append, args := #[d, s], argTypes := #[t, t'] }) (v u : Value) (hd : a.eval d = v) (hs : a.eval s = u)
    (hr : ∀ ty, (Builtin.append_ #[t, t'] ty #[v, u]).run P w = .ok v' w') : (execOp a.eval o).run P w = .ok (.value v') w' := by
  have h := hr o.type
  simp [execOp, ho, resolve, invoke, builtin, hd, hs, h, Result.andThen]
theorem zero_len (z : Value) (n : Nat) : (Builtin.zeroCells z.cells n).size = n * z.cells.size := by simp [Builtin.zeroCells]

set_option maxHeartbeats 4000000 in
theorem insert_grow {F : Nat → Prop} (g c : Nat) (zs : List Oz) (d : Oz) (gu uc : Nat) (z : Oz) (w : World) (h : Oown F w (.slice (some ⟨g, 0, none⟩) (zs.length + 1) c) (zs ++ [d])) (hu : Oown F w (.slice (some ⟨gu, 0, none⟩) 1 uc) [z]) (hap : ∀ y ∈ zs ++ [d], Ap y z) (hc : c < zs.length + 2) (hl : zs.length ≤ 100663296) :
    Calls Tryz.prog 76 #[.slice (some ⟨g, 0, none⟩) (zs.length + 1) c, .int .i64 zs.length, .slice (some ⟨gu, 0, none⟩) 1 uc] w (InsP F w (zs ++ [z, d])) := by
  obtain ⟨i0, hi0, hz0, hz1, hz2⟩ := info_op
  have hrow := h.row
  rw [List.length_append, List.length_singleton, fl_app, fl_one] at hrow
  obtain ⟨cur, hg, hnc, hcm, hcs, R, hL⟩ := own_list hrow
  have hurow := hu.row
  rw [List.length_singleton, fl_one] at hurow
  obtain ⟨curu, hgu, -, -, hcsu, Ru, hLu⟩ := own_list hurow
  have hP : (fl ozC zs).length = zs.length * 5 := fl_len ozC zs
  have hD : (ozC.c d).length = 5 := ozC.len d
  have hZ : (ozC.c z).length = 5 := ozC.len z
  obtain ⟨n, hn⟩ : ∃ n, zs.length = n := ⟨_, rfl⟩
  have hgl := own_lt7 hrow rfl
  have hul := own_lt7 hurow rfl
  have hold : (Builtin.firstCells i0.size n (.slice (some ⟨g, 0, none⟩) n c)).run Tryz.prog w.drew = .ok (fl ozC zs).toArray w.drew := by
    rw [hz1]
    exact run_firstCells_some w.drew 5 n ⟨g, 0, none⟩ n c (fl ozC zs) (by rw [hP, hn]) (fun j v hj => by
      have hjl : j < (fl ozC zs).length := (List.getElem?_eq_some_iff.1 hj).1
      rw [Go.WideShapes.add_plain, cell_of_row w.drew g _ _ _ _ hg, ← Array.getElem?_toList, hL, Nat.zero_add, List.append_assoc, List.getElem?_append_left hjl]
      exact hj)
  have hrz : ∀ ty, (Builtin.append_ #[23, 3] ty #[.slice (some ⟨g, 0, none⟩) n c, .int .i64 2]).run Tryz.prog w =
      .ok (.slice (some ⟨w.heap.size, 0, none⟩) (n + 2) (grownCap w (n + 2) c 56)) (w.drew.alloc (.cells ((fl ozC zs).toArray ++ Builtin.zeroCells (Value.agg (opcs 0 0 none 0 0 none 0 0 none 0 0)).cells 2 ++ Builtin.zeroCells (Value.agg (opcs 0 0 none 0 0 none 0 0 none 0 0)).cells (grownCap w (n + 2) c 56 - (n + 2))) 56)) := fun ty =>
    Lib.run_append_grow_zeros w 23 3 ty 56 i0 _ .i64 .i64 Tryz.underlying23 Tryz.underlying3 hi0 hz0 (some ⟨g, 0, none⟩) n c (fl ozC zs) hold 2 (by omega) (by omega) (by omega) (by omega) (by rw [hz2]; omega) (by rw [hz2]; exact growslice_fits (by omega) (by omega))
  obtain ⟨G, hG⟩ : ∃ G, grownCap w (n + 2) c 56 = G := ⟨_, rfl⟩
  have hGn : n + 2 ≤ G := by rw [← hG]; exact grownCap_ge w _ _ _
  have hGm : G ≤ maxLen := by rw [← hG]; exact grownCap_le_maxLen w (n + 2) c _ (by unfold maxLen; omega)
  rw [hG] at hrz
  obtain ⟨Z2, hZ2⟩ : ∃ Z2, Builtin.zeroCells (Value.agg (opcs 0 0 none 0 0 none 0 0 none 0 0)).cells 2 = Z2 := ⟨_, rfl⟩
  obtain ⟨ZG, hZG⟩ : ∃ ZG, Builtin.zeroCells (Value.agg (opcs 0 0 none 0 0 none 0 0 none 0 0)).cells (G - (n + 2)) = ZG := ⟨_, rfl⟩
  have hZ2s : Z2.size = 10 := by rw [← hZ2, zero_len]; rfl
  obtain ⟨Y1, Y2, hY, hY1, hY2⟩ : ∃ Y1 Y2, Z2.toList = Y1 ++ Y2 ∧ Y1.length = 5 ∧ Y2.length = 5 := ⟨Z2.toList.take 5, Z2.toList.drop 5, (List.take_append_drop _ _).symm, by rw [List.length_take, Array.length_toList]; omega, by rw [List.length_drop, Array.length_toList]; omega⟩
  have hZGs : ZG.size = (G - (n + 2)) * 5 := by rw [← hZG, zero_len]; rfl
  rw [hZ2, hZG] at hrz
  obtain ⟨row0, hrow0⟩ : ∃ row0, (fl ozC zs).toArray ++ Z2 ++ ZG = row0 := ⟨_, rfl⟩
  rw [hrow0] at hrz
  obtain ⟨N, hN⟩ : ∃ N, w.heap.size = N := ⟨_, rfl⟩
  obtain ⟨row1, hrow1⟩ : ∃ row1, row1 = (fl ozC zs ++ ozC.c z ++ (Y2 ++ ZG.toList)).toArray := ⟨_, rfl⟩
  obtain ⟨row2, hrow2⟩ : ∃ row2, row2 = (fl ozC zs ++ ozC.c z ++ (ozC.c d ++ ZG.toList)).toArray := ⟨_, rfl⟩
  have hr0 : row0.size = n * 5 + 10 + (G - (n + 2)) * 5 := by rw [← hrow0, Array.size_append, Array.size_append, List.size_toArray, hP, hn, hZ2s, hZGs]
  have hr1 : row1.size = n * 5 + 10 + (G - (n + 2)) * 5 := by rw [hrow1, List.size_toArray, List.length_append, List.length_append, List.length_append, hP, hn, hZ, hY2, Array.length_toList, hZGs]; omega
  have hr2 : row2.size = n * 5 + 10 + (G - (n + 2)) * 5 := by rw [hrow2, List.size_toArray, List.length_append, List.length_append, List.length_append, hP, hn, hZ, hD, Array.length_toList, hZGs]; omega
  have hcA : ∀ (W : World) (hW : W.heap[N]? = some (.cells row0 56 (0, 0))) (hWu : W.heap[gu]? = some (.cells curu 56 (0, 0))) ty dc, (Builtin.copy_ #[23, 23] ty #[.slice (some ⟨N, n * 5, none⟩) 2 dc, .slice (some ⟨gu, 0, none⟩) 1 uc]).run Tryz.prog W = .ok (goInt 1) (W.setRow N row1) := fun W hW hWu ty dc => by
    have := run_copy_rowN (P := Tryz.prog) W 23 23 ty 56 N (n * 5) 2 dc ⟨gu, 0, none⟩ 1 uc 5 row0 _ (ozC.c z) Tryz.underlying23 op_size5 hW (by rw [hZ]; rfl) (fun j v hj => by
      have hj5 : j < 5 := by have := (List.getElem?_eq_some_iff.1 hj).1; omega
      rw [Go.WideShapes.add_plain, cell_of_row W gu _ _ _ _ hWu, ← Array.getElem?_toList, hLu, Nat.zero_add, List.getElem?_append_left (by omega)]
      exact hj) (by rw [hZ, hr0]; omega) (ozC.one z)
    rw [this]
    congr 2
    rw [hrow1, ← hrow0, hZ]
    congr 1
    have e2 : ((fl ozC zs).toArray ++ Z2 ++ ZG).toList = fl ozC zs ++ (Y1 ++ (Y2 ++ ZG.toList)) := by simp [hY]
    have e3 : n * 5 = (fl ozC zs).length := by rw [hP, hn]
    rw [e2, e3, List.take_left', List.drop_append, List.drop_of_length_le (by omega)]
    · simp [hY1]
    · rfl
  have hcB : ∀ (W : World) (hW : W.heap[N]? = some (.cells row1 56 (0, 0))) (hWg : W.heap[g]? = some (.cells cur 56 (0, 0))) ty dc sc, (Builtin.copy_ #[23, 23] ty #[.slice (some ⟨N, (n + 1) * 5, none⟩) 1 dc, .slice (some ⟨g, n * 5, none⟩) 1 sc]).run Tryz.prog W = .ok (goInt 1) (W.setRow N row2) := fun W hW hWg ty dc sc => by
    have := run_copy_rowN (P := Tryz.prog) W 23 23 ty 56 N ((n + 1) * 5) 1 dc ⟨g, n * 5, none⟩ 1 sc 5 row1 _ (ozC.c d) Tryz.underlying23 op_size5 hW (by rw [hD]; rfl) (fun j v hj => by
      have hj5 : j < 5 := by have := (List.getElem?_eq_some_iff.1 hj).1; omega
      rw [Go.WideShapes.add_plain, cell_of_row W g _ _ _ _ hWg, ← Array.getElem?_toList, hL, List.append_assoc, List.getElem?_append_right (by rw [hP]; omega), hP, hn, Nat.add_sub_cancel_left, List.getElem?_append_left (by omega)]
      exact hj) (by rw [hD, hr1]; omega) (ozC.one d)
    rw [this]
    congr 2
    rw [hrow2, hrow1, hD]
    congr 1
    have e1 : (n + 1) * 5 = (fl ozC zs ++ ozC.c z).length := by rw [List.length_append, hP, hZ, hn]; omega
    have e2 : (fl ozC zs ++ ozC.c z ++ (Y2 ++ ZG.toList)).toArray.toList = (fl ozC zs ++ ozC.c z) ++ (Y2 ++ ZG.toList) := by simp
    rw [e2, e1, List.take_left', List.drop_append, List.drop_of_length_le (by omega)]
    · simp [hY2]
    · rfl
  have HFIN := Lib.hid (fun (W : World) (hW : W.heap[N]? = some (.cells row2 56 (0, 0))) (hb : Below w.heap.size w W) => (show InsP F w (zs ++ [z, d]) (.returned (.slice (some ⟨N, 0, none⟩) (n + 2) G)) W from
    ⟨_, rfl, Oown.insert h (hu.own z (by simp)) hap (Off.of_below hb) (by
      have e : (zs ++ [z, d]).length = n + 2 := by simp [hn]
      rw [e]
      exact own_of_list hW hGn hGm (by rw [hr2]; omega) (R := ZG.toList) (by rw [hrow2]; simp [fl_app, fl_cons, fl_nil]) (by rw [fl_len, e]; rfl)) (fun k hk => .inr (by injection hk with hk; subst hk; exact Nat.le_of_eq hN)), Off.of_below hb⟩))
  have hcm2 : c ≤ 9223372036854775807 := by unfold maxLen at hcm; omega
  have hGm2 : G ≤ 9223372036854775807 := by unfold maxLen at hGm; omega
  have HW0 := Lib.hid (show (w.alloc (.cells row0 56)).drew.heap[N]? = some (.cells row0 56 (0, 0)) from by rw [← hN]; exact heap_alloc_new w _)
  have HWu := Lib.hid (show (w.alloc (.cells row0 56)).drew.heap[gu]? = some (.cells curu 56 (0, 0)) from (heap_alloc_old w _ hul).trans hgu)
  have HWg := Lib.hid (show (w.alloc (.cells row0 56)).drew.heap[g]? = some (.cells cur 56 (0, 0)) from (heap_alloc_old w _ hgl).trans hg)
  have HNE := Lib.hid (show g ≠ N from by rw [← hN]; exact Nat.ne_of_lt hgl)
  have HB := Lib.hid (show Below w.heap.size w (w.alloc (.cells row0 56)).drew from ((Below.refl _ _).alloc (Nat.le_refl _) _).drew)
  clear hrow0 hrow1 hrow2 hrow hurow hP hD hZ hr0 hr1 hr2 hL hLu hcs hcsu hcm hGm h hu hap hold hY hY1 hY2 hZ2 hZG hZ2s hZGs hG hg hgu hul hgl hz1 hz2
  rw [hn] at hnc hc hl ⊢
  clear hn
  rw [hN] at hrz
  have HNN := Lib.hid hN
  clear hN
  have e1 : ((n + 1 : Nat) : Int) = (n : Int) + 1 := by omega
  have w1 : IntKind.i64.wrap ((n : Int) + 1) = (n : Int) + 1 := by rw [IntKind.wrap_i64]; omega
  have w2 : IntKind.i64.wrap ((n : Int) + 1 + 1) = (n : Int) + 1 + 1 := by rw [IntKind.wrap_i64]; omega
  have w3 : IntKind.i64.wrap ((n : Int) + 1 + 1 - (n : Int)) = 2 := by rw [IntKind.wrap_i64]; omega
  have w4 : (n : Int) + 1 + 1 - (n : Int) = 2 := by omega
  have b1 : (c : Int) < (n : Int) + 1 + 1 := by omega
  have b2 : ¬ (c = n) := by omega
  have b3 : ¬ (G = n) := by omega
  have b7 : ¬ (G = n + 1) := by omega
  have b4 : (0 : Int) ≤ (n : Int) + 1 := by omega
  have b5 : (n : Int) ≤ (n : Int) + 1 := by omega
  have b6 : (n : Int) ≤ (n : Int) + 1 + 1 := by omega
  have e22 : n + 2 - n = 2 := by omega
  have e23 : n + 2 - (n + 1) = 1 := by omega
  have mixed : Tryz.prog.follows Departure.mixedOrders = true := by kernel_rfl
  have hg1 : ((w.alloc (.cells row0 56)).drew.setRow N row1).drew.heap[N]? = some (.cells row1 56 (0, 0)) := setRow_heap _ _ _ _ _ _ HW0.out
  have hgg1 : ((w.alloc (.cells row0 56)).drew.setRow N row1).drew.heap[g]? = some (.cells cur 56 (0, 0)) := (setRow_other _ _ _ _ HNE.out).trans HWg.out
  go_enter Tryz.func76, Tryz.ntmps76
  have hcA1 := fun ty dc => hcA _ HW0.out HWu.out ty dc
  go_wp2_with (at_builtin; refine wpList_do rfl (exec_append _ _ 23 3 rfl _ _ rfl rfl (fun ty => hrz ty)) ?_)
  go_region_law_o (refine step_do rfl (exec_copy _ _ 23 23 rfl (.slice (some ⟨N, (n + 1) * 5, none⟩) 1 (G - (n + 1))) (.slice (some ⟨g, n * 5, none⟩) 1 (c - n)) (by simp [Act.eval, Act.put]) (by simp [Act.eval, Act.put]) (fun ty => hcB _ hg1 hgg1 ty _ _)) ?_)
  go_wp2
  go_ret
  refine HFIN.out _ (setRow_heap _ _ _ _ _ _ hg1) ?_
  exact below_row (below_row HB.out (Nat.le_of_eq HNN.out)).drew (Nat.le_of_eq HNN.out)
end Go.Proofs.YtohgopibimgjfaaGreat

/- N15: a maker's state -/
namespace Go.Proofs.YtohgopibimgjfaaGreat
open Go.RowKit
set_option linter.unusedVariables false
set_option maxRecDepth 100000

/-- What is true of a row that was told. -/
structure RI (R : List Opn) (L S : Nat) : Prop where
  ok : ∀ o ∈ R, 1 ≤ lenN o ∧ o.n ≤ 9223372036854775807
  len : R.length ≤ L
  rs : sumR R ≤ S
theorem lenN_2 {p : Opn} (h : p.k = 2) : lenN p = p.rs.length := if_pos h
theorem lenN_n {p : Opn} (h : p.k ≠ 2) (h1 : 1 ≤ lenN p) : 1 ≤ p.n := by
  unfold lenN at h1
  rw [if_neg h] at h1
  split at h1 <;> omega
theorem lenN_long {l p : Opn} (h : Alike l p) (hl : 1 ≤ lenN l ∧ l.n ≤ 9223372036854775807) (hp : 1 ≤ lenN p) : 1 ≤ lenN (long l p) ∧ (long l p).n ≤ 9223372036854775807 := by
  obtain ⟨e1, -, -⟩ := long_k l p
  by_cases h2 : l.k = 2
  · rw [lenN_2 (by rw [e1]; exact h2)]
    rw [lenN_2 h2] at hl
    unfold long
    rw [if_pos h2]
    simp only [List.length_append]
    omega
  · have hk : l.k = 1 ∨ l.k = 3 := by
      have := hl.1
      unfold lenN at this
      rw [if_neg h2] at this
      by_cases hh : l.k = 1 ∨ l.k = 3
      · exact hh
      · rw [if_neg hh] at this; omega
    have hn := lenN_n h2 hl.1
    have hp2 := lenN_n (p := p) (by rw [← h.1]; exact h2) hp
    have e : lenN (long l p) = (long l p).n := by
      unfold lenN
      rw [e1, if_neg h2, if_pos hk]
    rw [e]
    unfold long
    rw [if_neg h2]
    simp only
    omega
theorem ri_rpush {p : Opn} {r : List Opn} {L S : Nat} (h : RI r L S) (hp : 1 ≤ lenN p) (hn : p.n ≤ 9223372036854775807) : RI (rpush p r) (L + 1) (S + p.rs.length) := by
  obtain ⟨h1, h2, h3⟩ := h
  cases r with
  | nil =>
    rw [rpush_nil]
    exact ⟨fun o ho => by obtain rfl := List.mem_singleton.1 ho; exact ⟨hp, hn⟩, by simp, by simp [sumR]⟩
  | cons l r =>
    rw [sumR_cons] at h3
    rw [List.length_cons] at h2
    by_cases ha : Alike l p
    · rw [rpush_yes r ha]
      refine ⟨fun o ho => ?_, by rw [List.length_cons]; omega, ?_⟩
      · rcases List.mem_cons.1 ho with rfl | ho
        · exact lenN_long ha (h1 l (by simp)) hp
        · exact h1 o (by simp [ho])
      · rw [sumR_cons]
        have : (long l p).rs.length ≤ l.rs.length + p.rs.length := by
          unfold long
          split
          · simp
          · simp only; omega
        omega
    · rw [rpush_no r ha]
      refine ⟨fun o ho => ?_, by rw [List.length_cons, List.length_cons]; omega, by rw [sumR_cons, sumR_cons]; omega⟩
      rcases List.mem_cons.1 ho with rfl | ho
      · exact ⟨hp, hn⟩
      · exact h1 o ho
theorem ri_rtell {p : Opn} {R : List Opn} {L S : Nat} (h : RI R L S) (hn : p.n ≤ 9223372036854775807) : RI (rtell p R) (L + 1) (S + p.rs.length) := by
  by_cases hz : lenN p < 1
  · rw [rtell_zero hz]; exact ⟨h.ok, by have := h.len; omega, by have := h.rs; omega⟩
  have hp : 1 ≤ lenN p := by omega
  cases R with
  | nil => rw [rtell_nil hp]; exact ri_rpush (r := []) h hp hn
  | cons d r =>
    by_cases hc : p.k = 2 ∧ d.k = 3
    · rw [rtell_del r hp hc.1 hc.2]
      have hs := h.rs
      have hl := h.len
      rw [sumR_cons] at hs
      rw [List.length_cons] at hl
      have := ri_rpush (r := r) (L := L - 1) (S := S - d.rs.length) ⟨fun o ho => h.ok o (by simp [ho]), by omega, by omega⟩ hp hn
      refine ⟨fun o ho => ?_, by have := this.len; rw [List.length_cons]; omega, by have := this.rs; rw [sumR_cons]; omega⟩
      rcases List.mem_cons.1 ho with rfl | ho
      · exact h.ok _ (by simp)
      · exact this.ok o ho
    · rw [rtell_else r hp hc]; exact ri_rpush h hp hn
theorem ri_nil : RI [] 0 0 := ⟨by simp, by simp, by simp [sumR]⟩
theorem RI.mono {R : List Opn} {L S L' S' : Nat} (h : RI R L S) (h1 : L ≤ L') (h2 : S ≤ S') : RI R L' S' := ⟨h.ok, Nat.le_trans h.len h1, Nat.le_trans h.rs h2⟩
theorem sumR_mem {R : List Opn} {o : Opn} (h : o ∈ R) : o.rs.length ≤ sumR R := by
  induction R with
  | nil => cases h
  | cons d r ih =>
    rw [sumR_cons]
    rcases List.mem_cons.1 h with rfl | h
    · omega
    · have := ih h; omega
/-- What lengthen asks. -/
theorem lg_of {R : List Opn} {L S : Nat} {l p : Oz} (h : RI R L S) (hl : l.o ∈ R) (ha : Alike l.o p.o) (hp : 1 ≤ lenN p.o) (hn : p.n ≤ 9223372036854775807) (hs : S + p.rs.length ≤ 100663296) : Lg l p := by
  have hk : l.k = p.k := ha.1
  obtain ⟨h1, h2⟩ := h.ok _ hl
  refine ⟨hk, fun h2' => ⟨?_, ?_⟩, fun hne => ?_⟩
  · rw [lenN_2 (show p.o.k = 2 from by rw [← ha.1]; exact h2')] at hp
    have : p.o.rs.length = p.rs.length := rfl
    omega
  · have h3 := sumR_mem hl
    have h4 := h.rs
    have h5 : l.o.rs.length = l.rs.length := rfl
    omega
  · exact ⟨lenN_n (p := l.o) hne h1, h2, lenN_n (p := p.o) (by show p.k ≠ 2; rw [← hk]; exact hne) hp, hn⟩

/-- A maker at bm, whose row lies in blocks of G, or in such as were made since w. -/
structure TS (G : Nat → Prop) (bm : Nat) (w : World) (R : List Opn) (va : Option Addr) (n vc : Nat) (zs : List Oz) (wr : World) : Prop where
  m : Cb bm 92 #[.slice va n vc] wr
  o : Oown (fun k => G k ∨ w.heap.size ≤ k) wr (.slice va n vc) zs
  n : zs.length = n
  r : (zs.map Oz.o).reverse = R
  off : Off (fun k => k = bm ∨ G k) w wr
/-- The blocks of the row that there are. -/
def Ft (G : Nat → Prop) (w wr : World) : Nat → Prop := fun k => (G k ∨ w.heap.size ≤ k) ∧ k < wr.heap.size
section
variable {G F F' S : Nat → Prop} {bm n vc : Nat} {w wr W w' : World} {R R' : List Opn} {va : Option Addr} {zs : List Oz}
theorem Oown.tight {v : Value} (h : Oown F w v zs) : Oown (fun k => F k ∧ k < w.heap.size) w v zs :=
  ⟨h.row, fun g hg => ⟨h.f g hg, own_lt7 h.row hg⟩, fun z hz => ⟨(h.own z hz).r, (h.own z hz).s, (h.own z hz).p, fun g hg => ⟨(h.own z hz).fr g hg, own_lt7 (h.own z hz).r hg⟩, fun g hg => ⟨(h.own z hz).fs g hg, own_lt7 (h.own z hz).s hg⟩, fun g hg => ⟨(h.own z hz).fp g hg, own_lt7 (h.own z hz).p hg⟩⟩, h.ap⟩
theorem TS.tight (h : TS G bm w R va n vc zs wr) (hb : Below wr.heap.size wr W) : Oown (Ft G w wr) W (.slice va n vc) zs := (Oown.tight h.o).below hb
theorem ft_bm (hG : ¬ G bm) (hbm : bm < w.heap.size) : ¬ Ft G w wr bm := fun h => by
  rcases h.1 with h | h
  · exact hG h
  · omega
theorem TS.cell (h : TS G bm w R va n vc zs wr) (hb : Below wr.heap.size wr W) : W.cell? ⟨bm, 0, none⟩ = some (.slice va n vc) := (h.m.below hb).cell 0
/-- An op of its row made longer. -/
theorem TS.longer (h : TS G bm w R va n vc zs wr) (hG : ¬ G bm) (hbm : bm < w.heap.size) (hb : Below wr.heap.size wr W) {ys : List Oz} (ho : Oown (fun k => Ft G w wr k ∨ W.heap.size ≤ k) w' (.slice va n vc) ys) (hoff : Off (Ft G w wr) W w') (hl : ys.length = n) (hr : (ys.map Oz.o).reverse = R') :
    TS G bm w R' va n vc ys w' := by
  have hO : Off (Ft G w wr) wr w' := Off.below_l hb hoff
  have hsz := h.off.size
  have hsz2 := hb.size
  refine ⟨h.m.off hO (ft_bm hG hbm), ho.mono fun k hk => ?_, hl, hr, h.off.trans (hO.mono fun k hk => ?_)⟩
  · rcases hk with hk | hk
    · exact hk.1
    · exact .inr (by omega)
  · rcases hk.1 with hk | hk
    · exact .inl (.inr hk)
    · exact .inr hk
/-- Another row stored. -/
theorem TS.laid {va' : Option Addr} {n' vc' : Nat} (h : TS G bm w R va n vc zs wr) (hG : ¬ G bm) (hbm : bm < w.heap.size) (hb : Below wr.heap.size wr W) {ys : List Oz} (ho : Oown (fun k => (Ft G w wr k ∨ wr.heap.size ≤ k) ∨ W.heap.size ≤ k) w' (.slice va' n' vc') ys) (hoff : Off (fun k => Ft G w wr k ∨ wr.heap.size ≤ k) W w') (hl : ys.length = n') (hr : (ys.map Oz.o).reverse = R') :
    TS G bm w R' va' n' vc' ys (w'.setCell ⟨bm, 0, none⟩ (.slice va' n' vc')) := by
  have hO : Off (Ft G w wr) wr w' := (Off.below_l hb (hoff.mono (S' := fun k => Ft G w wr k ∨ wr.heap.size ≤ k) fun k hk => hk)).cut
  have hsz := h.off.size
  have hsz2 := hb.size
  have hm' : Cb bm 92 #[.slice va n vc] w' := h.m.off hO (ft_bm hG hbm)
  have hset := grown_set (w := w') (g := bm) (o := 0) (.slice va' n' vc')
  have hOs : Off (fun k => k = bm) w' (w'.setCell ⟨bm, 0, none⟩ (.slice va' n' vc')) := Off.of_grown hset (fun g hg => by cases hg; rfl)
  refine ⟨heap_set _ hm', ?_, hl, hr, ?_⟩
  · have h1 : Oown (fun k => Ft G w wr k ∨ wr.heap.size ≤ k) w' (.slice va' n' vc') ys := ho.mono fun k hk => by
      rcases hk with hk | hk
      · exact hk
      · exact .inr (by omega)
    refine (h1.off hOs fun k hk _ e => ?_).mono fun k hk => ?_
    · subst e
      rcases hk with hk | hk
      · exact ft_bm hG hbm hk
      · omega
    · rcases hk with hk | hk
      · exact hk.1
      · exact .inr (by omega)
  · refine (h.off.trans (hO.mono fun k hk => ?_)).seq (hOs.mono fun k hk => .inl hk)
    rcases hk.1 with hk | hk
    · exact .inl (.inr hk)
    · exact .inr hk
end
/-! ### what each way comes to -/
theorem way_nil {p z : Oz} (hz : z.o = p.o) (hp : 1 ≤ lenN p.o) : ((([] : List Oz) ++ [z]).map Oz.o).reverse = rtell p.o ((([] : List Oz)).map Oz.o).reverse := by
  rw [show ((([] : List Oz)).map Oz.o).reverse = [] from rfl, rtell_nil hp]
  simp [hz]
theorem way_behind {zs : List Oz} {d p z : Oz} (hz : z.o = p.o) (hp : 1 ≤ lenN p.o) (hc : ¬ (p.k = 2 ∧ d.k = 3)) (ha : ¬ Alike d.o p.o) : (((zs ++ [d]) ++ [z]).map Oz.o).reverse = rtell p.o ((zs ++ [d]).map Oz.o).reverse := by
  have e : ((zs ++ [d]).map Oz.o).reverse = d.o :: (zs.map Oz.o).reverse := by simp
  rw [e, rtell_else (d := d.o) _ hp hc, rpush_no _ ha]
  simp [hz]
theorem way_long {zs : List Oz} {d p y : Oz} (hy : y.o = long d.o p.o) (hp : 1 ≤ lenN p.o) (hc : ¬ (p.k = 2 ∧ d.k = 3)) (ha : Alike d.o p.o) : (((zs ++ [d]).set zs.length y).map Oz.o).reverse = rtell p.o ((zs ++ [d]).map Oz.o).reverse := by
  have e : ((zs ++ [d]).map Oz.o).reverse = d.o :: (zs.map Oz.o).reverse := by simp
  rw [e, rtell_else (d := d.o) _ hp hc, rpush_yes _ ha, List.set_append_right _ _ (Nat.le_refl _), Nat.sub_self]
  simp [hy]
theorem way_ahead1 {d p z : Oz} (hz : z.o = p.o) (hp : 1 ≤ lenN p.o) (h2 : p.k = 2) (h3 : d.k = 3) : ((([] : List Oz) ++ [z, d]).map Oz.o).reverse = rtell p.o ((([] : List Oz) ++ [d]).map Oz.o).reverse := by
  have e : ((([] : List Oz) ++ [d]).map Oz.o).reverse = [d.o] := by simp
  rw [e, rtell_del _ hp h2 h3, rpush_nil]
  simp [hz]
theorem way_ahead {zs : List Oz} {l d p z : Oz} (hz : z.o = p.o) (hp : 1 ≤ lenN p.o) (h2 : p.k = 2) (h3 : d.k = 3) (ha : ¬ Alike l.o p.o) : (((zs ++ [l]) ++ [z, d]).map Oz.o).reverse = rtell p.o (((zs ++ [l]) ++ [d]).map Oz.o).reverse := by
  have e : (((zs ++ [l]) ++ [d]).map Oz.o).reverse = d.o :: l.o :: (zs.map Oz.o).reverse := by simp
  rw [e, rtell_del _ hp h2 h3, rpush_no _ ha]
  simp [hz]
theorem way_aheadL {zs : List Oz} {l d p y : Oz} (hy : y.o = long l.o p.o) (hp : 1 ≤ lenN p.o) (h2 : p.k = 2) (h3 : d.k = 3) (ha : Alike l.o p.o) : ((((zs ++ [l]) ++ [d]).set zs.length y).map Oz.o).reverse = rtell p.o (((zs ++ [l]) ++ [d]).map Oz.o).reverse := by
  have e : (((zs ++ [l]) ++ [d]).map Oz.o).reverse = d.o :: l.o :: (zs.map Oz.o).reverse := by simp
  rw [e, rtell_del _ hp h2 h3, rpush_yes _ ha, List.append_assoc, List.set_append_right _ _ (Nat.le_refl _), Nat.sub_self]
  simp [hy]
end Go.Proofs.YtohgopibimgjfaaGreat

/- N16: tell -/
namespace Go.Proofs.YtohgopibimgjfaaGreat
open Go.RowKit
set_option linter.unusedVariables false
set_option maxRecDepth 100000

theorem insert_mid {F : Nat → Prop} (a : Option Addr) (n c : Nat) (zs : List Oz) (d : Oz) (gu uc : Nat) (z : Oz) (w : World) (h : Oown F w (.slice a (n + 1) c) (zs ++ [d])) (hn : zs.length = n) (hu : Oown F w (.slice (some ⟨gu, 0, none⟩) 1 uc) [z]) (hap : ∀ y ∈ zs ++ [d], Ap y z) (hne : ∀ g, a = some ⟨g, 0, none⟩ → gu ≠ g) (hl : n ≤ 100663296) :
    Calls Tryz.prog 76 #[.slice a (n + 1) c, .int .i64 n, .slice (some ⟨gu, 0, none⟩) 1 uc] w (InsP F w (zs ++ [z, d])) := by
  subst hn
  obtain ⟨a', c', e, ha, -⟩ := h.shape
  injection e with e1 e2 e3
  subst e1 e3
  rcases ha with rfl | ⟨g, rfl⟩
  · rcases h.row.2 with ⟨_, h0⟩ | ⟨g, cap, cur, hv, -⟩
    · simp at h0
    · injection hv with e1; cases e1
  · by_cases hc : zs.length + 2 ≤ c
    · exact insert_room g c zs d gu uc z w h hu hap (hne g rfl) hc
    · exact insert_grow g c zs d gu uc z w h hu hap (by omega) hl
theorem own_single {F : Nat → Prop} {w : World} {v : Value} {ys : List Oz} {p : Oz} (h : Oown F w v ys) (he : ys.map Oz.o = [p].map Oz.o) : ∃ z gu uc, ys = [z] ∧ z.o = p.o ∧ v = .slice (some ⟨gu, 0, none⟩) 1 uc := by
  cases ys with
  | nil => simp at he
  | cons z r =>
    cases r with
    | cons y r => simp at he
    | nil =>
      obtain ⟨a, c, rfl, ha, -⟩ := h.shape
      rcases ha with rfl | ⟨g, rfl⟩
      · rcases h.row.2 with ⟨_, h0⟩ | ⟨g, cap, cur, hv, -⟩
        · simp at h0
        · injection hv with e1; cases e1
      · exact ⟨z, g, c, rfl, by simpa using he, rfl⟩
theorem step_call {P : Program} {ops : Array Oper} {o : Oper} {a : Act} {w : World} {f : FuncId} {args : Array Value} {K : Act → World → Prop} {Q : Exit → Act → World → Prop} {E : Prop} (hg : o.guard = none) (hv : (execOp a.eval o).run P w = .ok (.enter f args) w)
    (hc : Calls P f args w fun e w' => ∃ v, e = .returned v ∧ K (a.put o.dst v) w') : if Region.wanted o (yielded ops a.tmps) = true then Oper.wp P o a w K Q else E := by
  have hw : Region.wanted o (yielded ops a.tmps) = true := by simp [Region.wanted, hg]
  rw [if_pos hw]
  unfold Oper.wp
  rw [hv]
  simp only [Oper.upon]
  refine hc.mono fun e w' ⟨v, he, h1⟩ => ?_
  subst he
  exact h1
theorem own_sh {F : Nat → Prop} {w : World} {v : Value} {zs : List Oz} (h : Oown F w v zs) : ∃ a n c, zs.length = n ∧ v = .slice a n c := by
  obtain ⟨a, c, e, -, -⟩ := h.shape
  exact ⟨a, _, c, rfl, e⟩
theorem TS.below {G : Nat → Prop} {bm n vc : Nat} {w wr W : World} {R : List Opn} {va : Option Addr} {zs : List Oz} (h : TS G bm w R va n vc zs wr) (hb : Below wr.heap.size wr W) : TS G bm w R va n vc zs W := ⟨h.m.below hb, h.o.below hb, h.n, h.r, h.off.below_r hb⟩
theorem CK.start0 (wr : World) (z : Oz) : CK wr z (wr.alloc (.cells z.cs 56)) := ⟨OAt.new wr z _, kbelow_one wr _, by simp⟩
/-- The row at its place, if it has an op. -/
theorem TS.at {G : Nat → Prop} {bm n vc : Nat} {w wr : World} {R : List Opn} {va : Option Addr} {zs : List Oz} (h : TS G bm w R va n vc zs wr) (h0 : 0 < zs.length) : ∃ g, va = some ⟨g, 0, none⟩ ∧ n ≤ vc ∧ vc ≤ maxLen ∧ ∀ W, Below wr.heap.size wr W → ∀ j (hj : j < zs.length), OAt g (j * 5) zs[j] W := by
  obtain ⟨a, c, e, ha, -⟩ := h.o.shape
  injection e with e1 e2 e3
  subst e1
  rcases ha with rfl | ⟨g, rfl⟩
  · rcases h.o.row.2 with ⟨_, hn⟩ | ⟨g, cap, cur, hv, -⟩
    · omega
    · injection hv with e1; cases e1
  · refine ⟨g, rfl, ?_, ?_, fun W hb j hj => ?_⟩
    · obtain ⟨cur, hc, h1, h2, -⟩ := own_list (by have := h.o.row; rw [h.n] at this; exact this); exact h1
    · obtain ⟨cur, hc, h1, h2, -⟩ := own_list (by have := h.o.row; rw [h.n] at this; exact this); exact h2
    · obtain ⟨b, off, e, -, -, -, -, hat⟩ := (h.o.below hb).orow.row.ats h0
      injection e with e
      injection e with e1 e2
      subst e1 e2
      have := hat j hj
      rwa [Nat.zero_add] at this
/-- What Insert asks of the copy. -/
theorem copy_apart {G : Nat → Prop} {bm n vc : Nat} {w wr W5 W6 : World} {R : List Opn} {va : Option Addr} {zs : List Oz} {gu uc : Nat} {z : Oz} (h : TS G bm w R va n vc zs wr) (hb5 : Below wr.heap.size wr W5) (hb6 : Below W5.heap.size W5 W6) (ho : Oown (fun g => W5.heap.size ≤ g) W6 (.slice (some ⟨gu, 0, none⟩) 1 uc) [z]) :
    Oown (fun k => Ft G w wr k ∨ wr.heap.size ≤ k) W6 (.slice (some ⟨gu, 0, none⟩) 1 uc) [z] ∧ (∀ y ∈ zs, Ap y z) ∧ (∀ g, va = some ⟨g, 0, none⟩ → gu ≠ g) ∧ Oown (fun k => Ft G w wr k ∨ wr.heap.size ≤ k) W6 (.slice va n vc) zs := by
  have hsz := hb5.size
  refine ⟨ho.mono fun k hk => .inr (by omega), fun y hy g hg hg2 => ?_, fun g hva e => ?_, (h.tight (below_add hb5 hb6 hb5.size)).mono fun k hk => .inl hk⟩
  · have h1 := own_lt7 (h.o.own y hy).r hg
    have h2 : W5.heap.size ≤ g := (ho.own z (by simp)).fr g hg2
    omega
  · subst hva e
    have h1 := own_lt7 h.o.row rfl
    have h2 : W5.heap.size ≤ gu := ho.f gu rfl
    have h3 : gu < wr.heap.size := h1
    omega
theorem insert_endN {F : Nat → Prop} (a : Option Addr) (n c : Nat) (zs : List Oz) (gu uc : Nat) (z : Oz) (w : World) (hn : zs.length = n) (h : Oown F w (.slice a n c) zs) (hu : Oown F w (.slice (some ⟨gu, 0, none⟩) 1 uc) [z]) (hap : ∀ y ∈ zs, Ap y z) (hl : n ≤ 100663296) :
    Calls Tryz.prog 76 #[.slice a n c, .int .i64 n, .slice (some ⟨gu, 0, none⟩) 1 uc] w (InsP F w (zs ++ [z])) := by
  subst hn
  exact insert_end a c zs gu uc z w h hu hap hl
theorem bm_kept {G : Nat → Prop} {bm n vc : Nat} {w wr w6 w7 : World} {R : List Opn} {va : Option Addr} {zs : List Oz} (h : TS G bm w R va n vc zs wr) (hG : ¬ G bm) (hbm : bm < w.heap.size) (hb : Below wr.heap.size wr w6) (ho : Off (fun k => Ft G w wr k ∨ wr.heap.size ≤ k) w6 w7) : w7.cell? ⟨bm, 0, none⟩ = some (.slice va n vc) ∧ w7.frozen? ⟨bm, 0, none⟩ = false := by
  have hsz := h.off.size
  have := (h.m.below hb).off ho (fun hh => by
    rcases hh with hh | hh
    · exact ft_bm hG hbm hh
    · omega)
  exact ⟨this.cell 0, this.frozen 0⟩

/-- The loop's state. -/
structure TL (G : Nat → Prop) (bm : Nat) (w : World) (R0 : List Opn) (L0 S0 : Nat) (xs : List Oz) (k : Nat) (va : Option Addr) (n vc : Nat) (zs : List Oz) (wr : World) : Prop where
  ts : TS G bm w (((xs.take k).map Oz.o).foldl (fun R p => rtell p R) R0) va n vc zs wr
  ri : RI (((xs.take k).map Oz.o).foldl (fun R p => rtell p R) R0) (L0 + k) (S0 + sumR ((xs.take k).map Oz.o))
theorem tl_next {G : Nat → Prop} {bm : Nat} {w : World} {R0 : List Opn} {L0 S0 : Nat} {xs : List Oz} {k : Nat} {R : List Opn} (hR : R = ((xs.take k).map Oz.o).foldl (fun R p => rtell p R) R0) (hk : k < xs.length) (hri : RI R (L0 + k) (S0 + sumR ((xs.take k).map Oz.o))) (hn : xs[k].n ≤ 9223372036854775807)
    {va : Option Addr} {n vc : Nat} {zs : List Oz} {wr : World} (h : TS G bm w (rtell xs[k].o R) va n vc zs wr) : TL G bm w R0 L0 S0 xs (k + 1) va n vc zs wr := by
  have e : ((xs.take (k + 1)).map Oz.o).foldl (fun R p => rtell p R) R0 = rtell xs[k].o R := by rw [tsnoc hk, List.map_append, List.foldl_append, hR]; rfl
  refine ⟨by rw [e]; exact h, ?_⟩
  rw [e]
  refine (ri_rtell hri hn).mono (by omega) ?_
  rw [tsnoc hk, List.map_append, sumR_app]
  simp [sumR, Oz.o]
  omega
theorem sumR_take (xs : List Oz) (k : Nat) (hk : k < xs.length) : sumR ((xs.take k).map Oz.o) + xs[k].rs.length ≤ sumR (xs.map Oz.o) := by
  have e : xs = xs.take k ++ xs[k] :: xs.drop (k + 1) := by rw [List.getElem_cons_drop, List.take_append_drop]
  have e2 : sumR (xs.map Oz.o) = sumR ((xs.take k).map Oz.o) + (xs[k].rs.length + sumR ((xs.drop (k + 1)).map Oz.o)) := by
    conv => lhs; rw [e]
    rw [List.map_append, sumR_app, List.map_cons, sumR_cons]; rfl
  omega

set_option maxHeartbeats 16000000 in
theorem tell_any (G : Nat → Prop) (bm : Nat) (u : Value) (R0 : List Opn) (L0 S0 : Nat) (va : Option Addr) (n vc : Nat) (zs xs : List Oz) (w : World) (hG : ¬ G bm) (hbm : bm < w.heap.size) (ht : TS G bm w R0 va n vc zs w) (hri : RI R0 L0 S0) (hx : Orow w u xs)
    (hav : ∀ a m c, u = .slice a m c → Na (fun k => k = bm ∨ G k) a m) (hnx : ∀ x ∈ xs, OpNa (fun k => k = bm ∨ G k) x) (hsm : ∀ x ∈ xs, Sm x) (hN : ∀ x ∈ xs, x.n ≤ 9223372036854775807) (hL : L0 + xs.length ≤ 100663296) (hS : S0 + sumR (xs.map Oz.o) ≤ 100663296) :
    Calls Tryz.prog 39 #[.pointer (some ⟨bm, 0, none⟩), u] w fun e w' => e = .returned (.tuple #[]) ∧ ∃ va n vc zs', TS G bm w ((xs.map Oz.o).foldl (fun R p => rtell p R) R0) va n vc zs' w' ∧ RI ((xs.map Oz.o).foldl (fun R p => rtell p R) R0) (L0 + xs.length) (S0 + sumR (xs.map Oz.o)) := by
  have hl := hx.len
  obtain ⟨a1, cap1, rfl⟩ := hx.shape
  have HX := Lib.hid (fun W (ho : Off (fun k => k = bm ∨ G k) w W) => hx.off ho (hav _ _ _ rfl) hnx)
  have HT0 := Lib.hid (show TL G bm w R0 L0 S0 xs 0 va n vc zs w from ⟨ht, hri.mono (Nat.le_refl _) (by omega)⟩)
  have HSM := Lib.hid hsm
  have HN := Lib.hid hN
  have HL := Lib.hid hL
  have HS := Lib.hid hS
  have HG := Lib.hid hG
  clear hx ht hav hnx hri hsm hN hL hS hG
  go_enter Tryz.func39, Tryz.ntmps39
  go_wp2
  go_step3
  go_wp2
  go_step3
  go_wp2
  go_loopw [11] (fun s11 wr => ∃ (k : Nat) (va : Option Addr) (n vc : Nat) (zs : List Oz), k ≤ xs.length ∧ s11 = .int .i64 k ∧ Hid (TL G bm w R0 L0 S0 xs k va n vc zs wr)) (fun s11 _ => xs.length - (intOf s11).toNat)
  case atStart => exact ⟨0, _, _, _, _, Nat.zero_le _, rfl, HT0⟩
  case round =>
    clear HT0
    obtain ⟨k, va, n, vc, zs, hk, rfl, HTL⟩ := hrel
    by_cases hlt : k < xs.length
    · have hxr := HX.out wr HTL.out.ts.off
      have hlt1 : 0 < xs.length := by omega
      obtain ⟨b1, o1, rfl, -, -, -, hbl, hat⟩ := hxr.row.ats hlt1
      have hoat := hat k hlt
      have hok := hxr.ok _ (List.getElem_mem hlt)
      have HSP := Lib.hid (HSM.out _ (List.getElem_mem hlt))
      have hnp := HN.out _ (List.getElem_mem hlt)
      have hst := sumR_take xs k hlt
      obtain ⟨R, hR⟩ : ∃ R, R = ((xs.take k).map Oz.o).foldl (fun R p => rtell p R) R0 := ⟨_, rfl⟩
      have hts := HTL.out.ts
      have hri := HTL.out.ri
      rw [← hR] at hts hri
      have HNX := Lib.hid (fun va n vc zs W (h : TS G bm w (rtell xs[k].o R) va n vc zs W) => tl_next hR hlt hri hnp h)
      have hs33 : (S0 + sumR ((xs.take k).map Oz.o)) + xs[k].rs.length ≤ 100663296 := by have := HS.out; omega
      have hl33 : zs.length ≤ 100663296 := by
        have h1 := hri.len
        have h2 := HL.out
        rw [← hts.r, List.length_reverse, List.length_map] at h1
        omega
      clear hat hxr hst hlt1 hR
      generalize (S0 + sumR ((xs.take k).map Oz.o)) = SS at *
      generalize xs[k] = p at *
      have HT := Lib.hid hts
      have HLG := Lib.hid (fun (l : Oz) (hl : l.o ∈ R) (ha : Alike l.o p.o) (hp : 1 ≤ lenN p.o) => lg_of hri hl ha hp hnp hs33)
      have HLT := Lib.hid hlt
      have HOK := Lib.hid (fun W (hb : Below wr.heap.size wr W) => hok.below hb)
      have HK := Lib.hid (CK.start0 wr p)
      have HW0 := Lib.hid (kbelow_one wr (.cells p.cs 56))
      have HLEN := Lib.hid (fun W => length_any _ p W rfl)
      have hwsz := hts.off.size
      have hbm2 : bm < wr.heap.size := Nat.lt_of_lt_of_le hbm hwsz
      have HBM0 := Lib.hid hbm
      have hts2 := hts.n
      clear hok hri hs33 HTL hts hwsz hbl HSM HN HL HS HX hnp
      obtain ⟨l, hlN⟩ : ∃ l, lenN p.o = l := ⟨_, rfl⟩
      rw [hlN] at HLEN
      have HLN := Lib.hid hlN
      clear hlN
      have HPK := Lib.hid (show p.o.k = p.k from rfl)
      obtain ⟨c0, c1, c2, c3, c4⟩ := hoat
      have HCP := Lib.hid (fun W (hb : Below wr.heap.size wr W) (v : Value) (hu : Orow W v [p]) => ocopy_any v [p] W hu (by simp) (fun z hz => by obtain rfl := List.mem_singleton.1 hz; exact HSP.out))
      have HAL := Lib.hid (fun (y : Oz) W (hy : OpOk W y) (hb : Below wr.heap.size wr W) b (h : decide (Alike y.o p.o) = b) => alike_any b y p W hy (HOK.out W hb) h)
      have cm0 := HT.out.cell (Below.refl _ _)
      by_cases hz : l < 1
      · have q0 : decide (l < 1) = true := decide_eq_true hz
        have HNR := Lib.hid (fun W (hb : Below wr.heap.size wr W) => HNX.out _ _ _ _ W (by rw [rtell_zero (by rw [HLN.out]; exact hz)]; exact HT.out.below hb))
        clear hz hts2
        go_wp2_with (go_at_call 74; refine (HLEN.out _).mono ?_; rintro e w1 ⟨rfl, hb⟩; have B1 := Lib.hid (below_add HW0.out hb HW0.out.size); clear hb)
        go_roundw
        case rel => exact ⟨k + 1, _, _, _, _, HLT.out, by go_num, HNR.out _ B1.out⟩
        case measure => have := HLT.out; simp [intOf]; omega
      have q0 : decide (l < 1) = false := decide_eq_false hz
      have HP := Lib.hid (show 1 ≤ lenN p.o by rw [HLN.out]; omega)
      clear hz
      by_cases hz0 : zs = []
      · subst hz0
        obtain rfl : n = 0 := by rw [← hts2]; rfl
        clear hts2
        by_cases hk2 : p.k = 2
        · have q1 : (p.k == 2) = true := by simpa using hk2
          clear hk2
          have cmz := HT.out.n
          have HBMK := Lib.hid (fun w6 w7 (hb : Below wr.heap.size wr w6) (ho : Off (fun k => Ft G w wr k ∨ wr.heap.size ≤ k) w6 w7) => (bm_kept HT.out HG.out HBM0.out hb ho))
          go_upto_region 8 with ((go_at_call 74; refine (HLEN.out _).mono ?_; rintro e w1 ⟨rfl, hb⟩; have B1 := Lib.hid (below_add HW0.out hb HW0.out.size); have K1 := Lib.hid (HK.out.below hb); have cm1 := HT.out.cell B1.out; obtain ⟨p0, p1, p2, p3, p4⟩ := K1.out.c; clear hb))
          refine region_classw (C := fun W => Below w1.heap.size w1 W) (by kernel_rfl) (by kernel_rfl) ((Below.refl _ _).drew) ?_
          repeat (first
            | (first
                 | refine w_skip (by rfl) (by rfl) ?_
                 | refine w_skipn (by rfl) (by rfl) ?_
               simp only [Act.put, List.setIfInBounds_toArray, List.set_cons_zero, List.set_cons_succ])
            | (first
                 | refine w_val (v := ?_) (by rfl) (fun w9 hS => ?_) ?_
                 | refine w_valg (v := ?_) (by rfl) (by rfl) (fun w9 hS => ?_) ?_
               rotate_left
               · skip
                 go_simp
                 try with_reducible rfl
               simp only [Act.put, List.setIfInBounds_toArray, List.set_cons_zero, List.set_cons_succ]))
          refine w_end ?_
          intro w3 hT
          have K3 := Lib.hid (K1.out.below hT)
          clear hT
          go_upto_region 10 with fail
          have cm3 := HT.out.cell K3.out.b
          obtain ⟨p0, p1, p2, p3, p4⟩ := K3.out.c
          have hbm3 : bm < w3.heap.size := Nat.lt_of_lt_of_le hbm2 K3.out.b.size
          have K5 := Lib.hid (K3.out.below (kbelow_one w3 (.cells p.cs 56)).drew)
          have HU5 := Lib.hid ((orow_one w3 p 56 (HOK.out _ K3.out.b)).below (Below.refl _ _).drew)
          go_region_law (first
            | (refine step_call (by rfl) (f := 77) (args := #[.slice (some ⟨w3.heap.size, 0, none⟩) 1 1]) (by go_simp) ?_; refine (HCP.out _ K5.out.b _ HU5.out).mono ?_; rintro e w6 ⟨u6, ys6, rfl, he6, ho6, hb6⟩; obtain ⟨z6, gu, uc, rfl, hz6, rfl⟩ := own_single ho6 he6; have cm6 := HT.out.cell (below_add K5.out.b hb6 K5.out.b.size); obtain ⟨p0, p1, p2, p3, p4⟩ := (K5.out.below hb6).c; have B6 := Lib.hid (below_add K5.out.b hb6 K5.out.b.size); have HAP := Lib.hid (copy_apart HT.out K5.out.b hb6 ho6); have HZ6 := Lib.hid hz6; clear hb6 ho6 hz6 he6; refine ⟨_, rfl, ?_⟩)
            | (refine step_call (by rfl) (f := 76) (args := #[.slice va 0 vc, .int .i64 (((0 : Nat)) : Int), .slice (some ⟨gu, 0, none⟩) 1 uc]) (by go_simp) ?_; refine (insert_end _ vc [] gu uc z6 w6 HAP.out.2.2.2 HAP.out.1 HAP.out.2.1 (by simp)).mono ?_; rintro e w7 ⟨v7, rfl, ho7, hoff7⟩; obtain ⟨va7, n7, vc7, hn7, rfl⟩ := own_sh ho7; obtain ⟨cm7, fm7⟩ := HBMK.out w6 w7 B6.out hoff7; refine ⟨_, rfl, ?_⟩))
          all_goals
            go_wp2
            go_roundw
            case rel => exact ⟨k + 1, _, _, _, _, HLT.out, by go_num, HNX.out _ _ _ _ _ (HT.out.laid HG.out HBM0.out B6.out ho7 hoff7 hn7 ((by rw [← HT.out.r]; exact way_nil HZ6.out HP.out)))⟩
            case measure => have := HLT.out; simp [intOf]; omega
        · have q1 : (p.k == 2) = false := by simpa using hk2
          clear hk2
          have cmz := HT.out.n
          have HBMK := Lib.hid (fun w6 w7 (hb : Below wr.heap.size wr w6) (ho : Off (fun k => Ft G w wr k ∨ wr.heap.size ≤ k) w6 w7) => (bm_kept HT.out HG.out HBM0.out hb ho))
          go_upto_region 8 with ((go_at_call 74; refine (HLEN.out _).mono ?_; rintro e w1 ⟨rfl, hb⟩; have B1 := Lib.hid (below_add HW0.out hb HW0.out.size); have K1 := Lib.hid (HK.out.below hb); have cm1 := HT.out.cell B1.out; obtain ⟨p0, p1, p2, p3, p4⟩ := K1.out.c; clear hb))
          refine region_classw (C := fun W => Below w1.heap.size w1 W) (by kernel_rfl) (by kernel_rfl) ((Below.refl _ _).drew) ?_
          repeat (first
            | (first
                 | refine w_skip (by rfl) (by rfl) ?_
                 | refine w_skipn (by rfl) (by rfl) ?_
               simp only [Act.put, List.setIfInBounds_toArray, List.set_cons_zero, List.set_cons_succ])
            | (first
                 | refine w_val (v := ?_) (by rfl) (fun w9 hS => ?_) ?_
                 | refine w_valg (v := ?_) (by rfl) (by rfl) (fun w9 hS => ?_) ?_
               rotate_left
               · skip
                 go_simp
                 try with_reducible rfl
               simp only [Act.put, List.setIfInBounds_toArray, List.set_cons_zero, List.set_cons_succ]))
          refine w_end ?_
          intro w3 hT
          have K3 := Lib.hid (K1.out.below hT)
          clear hT
          go_upto_region 10 with fail
          have cm3 := HT.out.cell K3.out.b
          obtain ⟨p0, p1, p2, p3, p4⟩ := K3.out.c
          have hbm3 : bm < w3.heap.size := Nat.lt_of_lt_of_le hbm2 K3.out.b.size
          have K5 := Lib.hid (K3.out.below (kbelow_one w3 (.cells p.cs 56)).drew)
          have HU5 := Lib.hid ((orow_one w3 p 56 (HOK.out _ K3.out.b)).below (Below.refl _ _).drew)
          go_region_law (first
            | (refine step_call (by rfl) (f := 77) (args := #[.slice (some ⟨w3.heap.size, 0, none⟩) 1 1]) (by go_simp) ?_; refine (HCP.out _ K5.out.b _ HU5.out).mono ?_; rintro e w6 ⟨u6, ys6, rfl, he6, ho6, hb6⟩; obtain ⟨z6, gu, uc, rfl, hz6, rfl⟩ := own_single ho6 he6; have cm6 := HT.out.cell (below_add K5.out.b hb6 K5.out.b.size); obtain ⟨p0, p1, p2, p3, p4⟩ := (K5.out.below hb6).c; have B6 := Lib.hid (below_add K5.out.b hb6 K5.out.b.size); have HAP := Lib.hid (copy_apart HT.out K5.out.b hb6 ho6); have HZ6 := Lib.hid hz6; clear hb6 ho6 hz6 he6; refine ⟨_, rfl, ?_⟩)
            | (refine step_call (by rfl) (f := 76) (args := #[.slice va 0 vc, .int .i64 (((0 : Nat)) : Int), .slice (some ⟨gu, 0, none⟩) 1 uc]) (by go_simp) ?_; refine (insert_end _ vc [] gu uc z6 w6 HAP.out.2.2.2 HAP.out.1 HAP.out.2.1 (by simp)).mono ?_; rintro e w7 ⟨v7, rfl, ho7, hoff7⟩; obtain ⟨va7, n7, vc7, hn7, rfl⟩ := own_sh ho7; obtain ⟨cm7, fm7⟩ := HBMK.out w6 w7 B6.out hoff7; refine ⟨_, rfl, ?_⟩))
          all_goals
            go_wp2
            go_roundw
            case rel => exact ⟨k + 1, _, _, _, _, HLT.out, by go_num, HNX.out _ _ _ _ _ (HT.out.laid HG.out HBM0.out B6.out ho7 hoff7 hn7 ((by rw [← HT.out.r]; exact way_nil HZ6.out HP.out)))⟩
            case measure => have := HLT.out; simp [intOf]; omega
      obtain ⟨zs0, d, rfl⟩ : ∃ zs0 d, zs = zs0 ++ [d] := ⟨zs.dropLast, zs.getLast hz0, (List.dropLast_concat_getLast hz0).symm⟩
      obtain ⟨m, hm⟩ : ∃ m, zs0.length = m := ⟨_, rfl⟩
      obtain rfl : n = m + 1 := by rw [← hts2, ← hm]; simp
      obtain ⟨g, rfl, hvc, hvm, hatd⟩ := HT.out.at (by simp)
      have HM := Lib.hid hm
      have HD := Lib.hid (fun W (hb : Below wr.heap.size wr W) => (show OAt g (m * 5) d W from by have := hatd W hb m (by simp [hm]); simpa [← hm] using this))
      have HDO := Lib.hid (fun W (hb : Below wr.heap.size wr W) => ((HT.out.o.own d (by simp)).below hb).ok)
      have hmx : m + 1 ≤ 100663296 := by rw [List.length_append, hm, List.length_singleton] at hl33; exact hl33
      have i1 : (m : Int) < (m : Int) + 1 := by omega
      have i0 : (0 : Int) ≤ (m : Int) := by omega
      have e2 : IntKind.i64.wrap ((m : Int)) = (m : Int) := by rw [IntKind.wrap_i64]; omega
      have e3 : (((m + 1 : Nat) : Int)) = (m : Int) + 1 := by omega
      have hdR : d.o ∈ R := by rw [← HT.out.r]; simp
      have HDR := Lib.hid hdR
      clear hz0 hts2 hm hdR hl33 hvm
      by_cases hk2 : p.k = 2
      rotate_left
      · have q1 : (p.k == 2) = false := by simpa using hk2
        have HC := Lib.hid (show ¬ (p.k = 2 ∧ d.k = 3) from fun h => hk2 h.1)
        clear hk2
        by_cases ha : Alike d.o p.o
        · have HA := Lib.hid (show decide (Alike d.o p.o) = true from decide_eq_true ha)
          have HAA := Lib.hid ha
          have HLGY := Lib.hid (HLG.out d HDR.out ha HP.out)
          have HLGY := Lib.hid (show Lg ((zs0 ++ [d])[m]'(by simp [HM.out])) p from by have e : ((zs0 ++ [d])[m]'(by simp [HM.out])) = d := (by simp [← HM.out]); rw [e]; exact HLGY.out)
          clear ha
          go_upto_region 8 with ((go_at_call 74; refine (HLEN.out _).mono ?_; rintro e w1 ⟨rfl, hb⟩; have B1 := Lib.hid (below_add HW0.out hb HW0.out.size); have K1 := Lib.hid (HK.out.below hb); have cm1 := HT.out.cell B1.out; obtain ⟨p0, p1, p2, p3, p4⟩ := K1.out.c; obtain ⟨d0, d1, d2, d3, d4⟩ := HD.out _ B1.out; clear hb))
          have y1 := HD.out _ B1.out
          obtain ⟨y10, y11, y12, y13, y14⟩ := y1
          go_region_held3 (fun w' => w'.cell? ⟨bm, 0, none⟩ = some (.slice (some ⟨g, 0, none⟩) (m + 1) vc) ∧ OAt g (m * 5) d w' ∧ OAt wr.heap.size 0 p w') (first | assumption | ((repeat' apply And.intro) <;> first | assumption | go_keep)) ((go_at_call 37; refine (HAL.out d _ (HDO.out _ B1.out.drew) B1.out.drew true HA.out).mono ?_; rintro e w3 ⟨rfl, hb⟩; have K3 := Lib.hid ((K1.out.below (Below.refl _ _).drew).below hb); have s1 := HT.out.cell K3.out.b; obtain ⟨s20, s21, s22, s23, s24⟩ := HD.out _ K3.out.b; obtain ⟨s30, s31, s32, s33, s34⟩ := K3.out.c; clear hb))
          go_upto_region 9 with fail
          have cm3 := HT.out.cell K3.out.b
          obtain ⟨p0, p1, p2, p3, p4⟩ := K3.out.c
          go_region_law ((refine step_call (by rfl) (f := 75) (args := #[.pointer (some ⟨g, m * 5, none⟩), p.v]) (by go_simp) ?_; refine (lengthen_any g (m + 1) vc (m) (zs0 ++ [d]) p _ (HT.out.tight (below_add K3.out.b (Below.refl _ _).drew K3.out.b.size)) (by simp [HM.out]) (HOK.out _ (below_add K3.out.b (Below.refl _ _).drew K3.out.b.size)) HLGY.out).mono ?_; rintro e w4 ⟨rfl, y4, hy4, ho4, hoff4⟩; refine ⟨_, rfl, ?_⟩))
          all_goals
            go_wp2
            go_roundw
            case rel => exact ⟨k + 1, _, _, _, _, HLT.out, by go_num, HNX.out _ _ _ _ _ (HT.out.longer HG.out HBM0.out (below_add K3.out.b (Below.refl _ _).drew K3.out.b.size) ho4 hoff4 (by simp [HM.out]) (by rw [← HT.out.r]; have e := HM.out; subst e; exact way_long (by simpa using hy4) HP.out HC.out HAA.out))⟩
            case measure => have := HLT.out; simp [intOf]; omega
        · have HA := Lib.hid (show decide (Alike d.o p.o) = false from decide_eq_false ha)
          have HAA := Lib.hid ha
          clear ha
          have HBMK := Lib.hid (fun w6 w7 (hb : Below wr.heap.size wr w6) (ho : Off (fun k => Ft G w wr k ∨ wr.heap.size ≤ k) w6 w7) => (bm_kept HT.out HG.out HBM0.out hb ho))
          go_upto_region 8 with ((go_at_call 74; refine (HLEN.out _).mono ?_; rintro e w1 ⟨rfl, hb⟩; have B1 := Lib.hid (below_add HW0.out hb HW0.out.size); have K1 := Lib.hid (HK.out.below hb); have cm1 := HT.out.cell B1.out; obtain ⟨p0, p1, p2, p3, p4⟩ := K1.out.c; obtain ⟨d0, d1, d2, d3, d4⟩ := HD.out _ B1.out; clear hb))
          have y1 := HD.out _ B1.out
          obtain ⟨y10, y11, y12, y13, y14⟩ := y1
          go_region_held3 (fun w' => w'.cell? ⟨bm, 0, none⟩ = some (.slice (some ⟨g, 0, none⟩) (m + 1) vc) ∧ OAt g (m * 5) d w' ∧ OAt wr.heap.size 0 p w') (first | assumption | ((repeat' apply And.intro) <;> first | assumption | go_keep)) ((go_at_call 37; refine (HAL.out d _ (HDO.out _ B1.out.drew) B1.out.drew false HA.out).mono ?_; rintro e w3 ⟨rfl, hb⟩; have K3 := Lib.hid ((K1.out.below (Below.refl _ _).drew).below hb); have s1 := HT.out.cell K3.out.b; obtain ⟨s20, s21, s22, s23, s24⟩ := HD.out _ K3.out.b; obtain ⟨s30, s31, s32, s33, s34⟩ := K3.out.c; clear hb))
          have HINS := Lib.hid (fun gu uc z6 w6 h hu hap => insert_endN (some ⟨g, 0, none⟩) (m + 1) vc (zs0 ++ [d]) gu uc z6 w6 (F := fun k => Ft G w wr k ∨ wr.heap.size ≤ k) (by simp [HM.out]) h hu hap (by omega))
          go_upto_region 10 with fail
          have cm3 := HT.out.cell K3.out.b
          obtain ⟨p0, p1, p2, p3, p4⟩ := K3.out.c
          have hbm3 : bm < w3.heap.size := Nat.lt_of_lt_of_le hbm2 K3.out.b.size
          have K5 := Lib.hid (K3.out.below (kbelow_one w3 (.cells p.cs 56)).drew)
          have HU5 := Lib.hid ((orow_one w3 p 56 (HOK.out _ K3.out.b)).below (Below.refl _ _).drew)
          go_region_law (first
            | (refine step_call (by rfl) (f := 77) (args := #[.slice (some ⟨w3.heap.size, 0, none⟩) 1 1]) (by go_simp) ?_; refine (HCP.out _ K5.out.b _ HU5.out).mono ?_; rintro e w6 ⟨u6, ys6, rfl, he6, ho6, hb6⟩; obtain ⟨z6, gu, uc, rfl, hz6, rfl⟩ := own_single ho6 he6; have cm6 := HT.out.cell (below_add K5.out.b hb6 K5.out.b.size); obtain ⟨p0, p1, p2, p3, p4⟩ := (K5.out.below hb6).c; have B6 := Lib.hid (below_add K5.out.b hb6 K5.out.b.size); have HAP := Lib.hid (copy_apart HT.out K5.out.b hb6 ho6); have HZ6 := Lib.hid hz6; clear hb6 ho6 hz6 he6; refine ⟨_, rfl, ?_⟩)
            | (refine step_call (by rfl) (f := 76) (args := #[.slice (some ⟨g, 0, none⟩) (m + 1) vc, .int .i64 (((m + 1 : Nat)) : Int), .slice (some ⟨gu, 0, none⟩) 1 uc]) (by go_simp) ?_; refine (HINS.out gu uc z6 w6 HAP.out.2.2.2 HAP.out.1 HAP.out.2.1).mono ?_; rintro e w7 ⟨v7, rfl, ho7, hoff7⟩; obtain ⟨va7, n7, vc7, hn7, rfl⟩ := own_sh ho7; obtain ⟨cm7, fm7⟩ := HBMK.out w6 w7 B6.out hoff7; refine ⟨_, rfl, ?_⟩))
          all_goals
            go_wp2
            go_roundw
            case rel => exact ⟨k + 1, _, _, _, _, HLT.out, by go_num, HNX.out _ _ _ _ _ (HT.out.laid HG.out HBM0.out B6.out ho7 hoff7 hn7 (by rw [← HT.out.r]; exact way_behind HZ6.out HP.out HC.out HAA.out))⟩
            case measure => have := HLT.out; simp [intOf]; omega
      have q1 : (p.k == 2) = true := by simpa using hk2
      by_cases hd3 : d.k = 3
      rotate_left
      · have q2 : (d.k == 3) = false := by simpa using hd3
        have HC := Lib.hid (show ¬ (p.k = 2 ∧ d.k = 3) from fun h => hd3 h.2)
        clear hk2 hd3
        by_cases ha : Alike d.o p.o
        · have HA := Lib.hid (show decide (Alike d.o p.o) = true from decide_eq_true ha)
          have HAA := Lib.hid ha
          have HLGY := Lib.hid (HLG.out d HDR.out ha HP.out)
          have HLGY := Lib.hid (show Lg ((zs0 ++ [d])[m]'(by simp [HM.out])) p from by have e : ((zs0 ++ [d])[m]'(by simp [HM.out])) = d := (by simp [← HM.out]); rw [e]; exact HLGY.out)
          clear ha
          go_upto_region 8 with ((go_at_call 74; refine (HLEN.out _).mono ?_; rintro e w1 ⟨rfl, hb⟩; have B1 := Lib.hid (below_add HW0.out hb HW0.out.size); have K1 := Lib.hid (HK.out.below hb); have cm1 := HT.out.cell B1.out; obtain ⟨p0, p1, p2, p3, p4⟩ := K1.out.c; obtain ⟨d0, d1, d2, d3, d4⟩ := HD.out _ B1.out; clear hb))
          have y1 := HD.out _ B1.out
          obtain ⟨y10, y11, y12, y13, y14⟩ := y1
          go_region_held3 (fun w' => w'.cell? ⟨bm, 0, none⟩ = some (.slice (some ⟨g, 0, none⟩) (m + 1) vc) ∧ OAt g (m * 5) d w' ∧ OAt wr.heap.size 0 p w') (first | assumption | ((repeat' apply And.intro) <;> first | assumption | go_keep)) ((go_at_call 37; refine (HAL.out d _ (HDO.out _ B1.out.drew) B1.out.drew true HA.out).mono ?_; rintro e w3 ⟨rfl, hb⟩; have K3 := Lib.hid ((K1.out.below (Below.refl _ _).drew).below hb); have s1 := HT.out.cell K3.out.b; obtain ⟨s20, s21, s22, s23, s24⟩ := HD.out _ K3.out.b; obtain ⟨s30, s31, s32, s33, s34⟩ := K3.out.c; clear hb))
          go_upto_region 9 with fail
          have cm3 := HT.out.cell K3.out.b
          obtain ⟨p0, p1, p2, p3, p4⟩ := K3.out.c
          go_region_law ((refine step_call (by rfl) (f := 75) (args := #[.pointer (some ⟨g, m * 5, none⟩), p.v]) (by go_simp) ?_; refine (lengthen_any g (m + 1) vc (m) (zs0 ++ [d]) p _ (HT.out.tight (below_add K3.out.b (Below.refl _ _).drew K3.out.b.size)) (by simp [HM.out]) (HOK.out _ (below_add K3.out.b (Below.refl _ _).drew K3.out.b.size)) HLGY.out).mono ?_; rintro e w4 ⟨rfl, y4, hy4, ho4, hoff4⟩; refine ⟨_, rfl, ?_⟩))
          all_goals
            go_wp2
            go_roundw
            case rel => exact ⟨k + 1, _, _, _, _, HLT.out, by go_num, HNX.out _ _ _ _ _ (HT.out.longer HG.out HBM0.out (below_add K3.out.b (Below.refl _ _).drew K3.out.b.size) ho4 hoff4 (by simp [HM.out]) (by rw [← HT.out.r]; have e := HM.out; subst e; exact way_long (by simpa using hy4) HP.out HC.out HAA.out))⟩
            case measure => have := HLT.out; simp [intOf]; omega
        · have HA := Lib.hid (show decide (Alike d.o p.o) = false from decide_eq_false ha)
          have HAA := Lib.hid ha
          clear ha
          have HBMK := Lib.hid (fun w6 w7 (hb : Below wr.heap.size wr w6) (ho : Off (fun k => Ft G w wr k ∨ wr.heap.size ≤ k) w6 w7) => (bm_kept HT.out HG.out HBM0.out hb ho))
          go_upto_region 8 with ((go_at_call 74; refine (HLEN.out _).mono ?_; rintro e w1 ⟨rfl, hb⟩; have B1 := Lib.hid (below_add HW0.out hb HW0.out.size); have K1 := Lib.hid (HK.out.below hb); have cm1 := HT.out.cell B1.out; obtain ⟨p0, p1, p2, p3, p4⟩ := K1.out.c; obtain ⟨d0, d1, d2, d3, d4⟩ := HD.out _ B1.out; clear hb))
          have y1 := HD.out _ B1.out
          obtain ⟨y10, y11, y12, y13, y14⟩ := y1
          go_region_held3 (fun w' => w'.cell? ⟨bm, 0, none⟩ = some (.slice (some ⟨g, 0, none⟩) (m + 1) vc) ∧ OAt g (m * 5) d w' ∧ OAt wr.heap.size 0 p w') (first | assumption | ((repeat' apply And.intro) <;> first | assumption | go_keep)) ((go_at_call 37; refine (HAL.out d _ (HDO.out _ B1.out.drew) B1.out.drew false HA.out).mono ?_; rintro e w3 ⟨rfl, hb⟩; have K3 := Lib.hid ((K1.out.below (Below.refl _ _).drew).below hb); have s1 := HT.out.cell K3.out.b; obtain ⟨s20, s21, s22, s23, s24⟩ := HD.out _ K3.out.b; obtain ⟨s30, s31, s32, s33, s34⟩ := K3.out.c; clear hb))
          have HINS := Lib.hid (fun gu uc z6 w6 h hu hap => insert_endN (some ⟨g, 0, none⟩) (m + 1) vc (zs0 ++ [d]) gu uc z6 w6 (F := fun k => Ft G w wr k ∨ wr.heap.size ≤ k) (by simp [HM.out]) h hu hap (by omega))
          go_upto_region 10 with fail
          have cm3 := HT.out.cell K3.out.b
          obtain ⟨p0, p1, p2, p3, p4⟩ := K3.out.c
          have hbm3 : bm < w3.heap.size := Nat.lt_of_lt_of_le hbm2 K3.out.b.size
          have K5 := Lib.hid (K3.out.below (kbelow_one w3 (.cells p.cs 56)).drew)
          have HU5 := Lib.hid ((orow_one w3 p 56 (HOK.out _ K3.out.b)).below (Below.refl _ _).drew)
          go_region_law (first
            | (refine step_call (by rfl) (f := 77) (args := #[.slice (some ⟨w3.heap.size, 0, none⟩) 1 1]) (by go_simp) ?_; refine (HCP.out _ K5.out.b _ HU5.out).mono ?_; rintro e w6 ⟨u6, ys6, rfl, he6, ho6, hb6⟩; obtain ⟨z6, gu, uc, rfl, hz6, rfl⟩ := own_single ho6 he6; have cm6 := HT.out.cell (below_add K5.out.b hb6 K5.out.b.size); obtain ⟨p0, p1, p2, p3, p4⟩ := (K5.out.below hb6).c; have B6 := Lib.hid (below_add K5.out.b hb6 K5.out.b.size); have HAP := Lib.hid (copy_apart HT.out K5.out.b hb6 ho6); have HZ6 := Lib.hid hz6; clear hb6 ho6 hz6 he6; refine ⟨_, rfl, ?_⟩)
            | (refine step_call (by rfl) (f := 76) (args := #[.slice (some ⟨g, 0, none⟩) (m + 1) vc, .int .i64 (((m + 1 : Nat)) : Int), .slice (some ⟨gu, 0, none⟩) 1 uc]) (by go_simp) ?_; refine (HINS.out gu uc z6 w6 HAP.out.2.2.2 HAP.out.1 HAP.out.2.1).mono ?_; rintro e w7 ⟨v7, rfl, ho7, hoff7⟩; obtain ⟨va7, n7, vc7, hn7, rfl⟩ := own_sh ho7; obtain ⟨cm7, fm7⟩ := HBMK.out w6 w7 B6.out hoff7; refine ⟨_, rfl, ?_⟩))
          all_goals
            go_wp2
            go_roundw
            case rel => exact ⟨k + 1, _, _, _, _, HLT.out, by go_num, HNX.out _ _ _ _ _ (HT.out.laid HG.out HBM0.out B6.out ho7 hoff7 hn7 (by rw [← HT.out.r]; exact way_behind HZ6.out HP.out HC.out HAA.out))⟩
            case measure => have := HLT.out; simp [intOf]; omega
      have q2 : (d.k == 3) = true := by simpa using hd3
      have HK2 := Lib.hid hk2
      have HD3 := Lib.hid hd3
      clear hk2 hd3
      by_cases hz0 : zs0 = []
      · subst hz0
        obtain rfl : m = 0 := HM.out.symm
        have HBMK := Lib.hid (fun w6 w7 (hb : Below wr.heap.size wr w6) (ho : Off (fun k => Ft G w wr k ∨ wr.heap.size ≤ k) w6 w7) => (bm_kept HT.out HG.out HBM0.out hb ho))
        go_upto_region 8 with ((go_at_call 74; refine (HLEN.out _).mono ?_; rintro e w1 ⟨rfl, hb⟩; have B1 := Lib.hid (below_add HW0.out hb HW0.out.size); have K1 := Lib.hid (HK.out.below hb); have cm1 := HT.out.cell B1.out; obtain ⟨p0, p1, p2, p3, p4⟩ := K1.out.c; obtain ⟨d0, d1, d2, d3, d4⟩ := HD.out _ B1.out; clear hb))
        refine region_classw (C := fun W => Below w1.heap.size w1 W) (by kernel_rfl) (by kernel_rfl) ((Below.refl _ _).drew) ?_
        repeat (first
          | (first
               | refine w_skip (by rfl) (by rfl) ?_
               | refine w_skipn (by rfl) (by rfl) ?_
             simp only [Act.put, List.setIfInBounds_toArray, List.set_cons_zero, List.set_cons_succ])
          | (first
               | refine w_val (v := ?_) (by rfl) (fun w9 hS => ?_) ?_
               | refine w_valg (v := ?_) (by rfl) (by rfl) (fun w9 hS => ?_) ?_
             rotate_left
             · skip
               go_simp
               try with_reducible rfl
             simp only [Act.put, List.setIfInBounds_toArray, List.set_cons_zero, List.set_cons_succ]))
        refine w_end ?_
        intro w3 hT
        have K3 := Lib.hid (K1.out.below hT)
        clear hT
        go_upto_region 10 with fail
        have cm3 := HT.out.cell K3.out.b
        obtain ⟨p0, p1, p2, p3, p4⟩ := K3.out.c
        have hbm3 : bm < w3.heap.size := Nat.lt_of_lt_of_le hbm2 K3.out.b.size
        have K5 := Lib.hid (K3.out.below (kbelow_one w3 (.cells p.cs 56)).drew)
        have HU5 := Lib.hid ((orow_one w3 p 56 (HOK.out _ K3.out.b)).below (Below.refl _ _).drew)
        go_region_law (first
          | (refine step_call (by rfl) (f := 77) (args := #[.slice (some ⟨w3.heap.size, 0, none⟩) 1 1]) (by go_simp) ?_; refine (HCP.out _ K5.out.b _ HU5.out).mono ?_; rintro e w6 ⟨u6, ys6, rfl, he6, ho6, hb6⟩; obtain ⟨z6, gu, uc, rfl, hz6, rfl⟩ := own_single ho6 he6; have cm6 := HT.out.cell (below_add K5.out.b hb6 K5.out.b.size); obtain ⟨p0, p1, p2, p3, p4⟩ := (K5.out.below hb6).c; have B6 := Lib.hid (below_add K5.out.b hb6 K5.out.b.size); have HAP := Lib.hid (copy_apart HT.out K5.out.b hb6 ho6); have HZ6 := Lib.hid hz6; clear hb6 ho6 hz6 he6; refine ⟨_, rfl, ?_⟩)
          | (refine step_call (by rfl) (f := 76) (args := #[.slice (some ⟨g, 0, none⟩) (0 + 1) vc, .int .i64 (((0 : Nat)) : Int), .slice (some ⟨gu, 0, none⟩) 1 uc]) (by go_simp) ?_; refine (insert_mid _ 0 vc [] d gu uc z6 w6 HAP.out.2.2.2 rfl HAP.out.1 HAP.out.2.1 HAP.out.2.2.1 (by omega)).mono ?_; rintro e w7 ⟨v7, rfl, ho7, hoff7⟩; obtain ⟨va7, n7, vc7, hn7, rfl⟩ := own_sh ho7; obtain ⟨cm7, fm7⟩ := HBMK.out w6 w7 B6.out hoff7; refine ⟨_, rfl, ?_⟩))
        all_goals
          go_wp2
          go_roundw
          case rel => exact ⟨k + 1, _, _, _, _, HLT.out, by go_num, HNX.out _ _ _ _ _ (HT.out.laid HG.out HBM0.out B6.out ho7 hoff7 hn7 (by rw [← HT.out.r]; exact way_ahead1 HZ6.out HP.out HK2.out HD3.out))⟩
          case measure => have := HLT.out; simp [intOf]; omega
      obtain ⟨zs1, l2, rfl⟩ : ∃ zs1 l2, zs0 = zs1 ++ [l2] := ⟨zs0.dropLast, zs0.getLast hz0, (List.dropLast_concat_getLast hz0).symm⟩
      obtain ⟨q, hq⟩ : ∃ q, zs1.length = q := ⟨_, rfl⟩
      obtain rfl : m = q + 1 := by rw [← HM.out, ← hq]; simp
      have HM := Lib.hid hq
      have hlR : l2.o ∈ R := by rw [← HT.out.r]; simp
      have HL2 := Lib.hid (fun W (hb : Below wr.heap.size wr W) => (show OAt g (q * 5) l2 W from by have := hatd W hb q (by simp [hq]); simpa [← hq] using this))
      have HLO := Lib.hid (fun W (hb : Below wr.heap.size wr W) => ((HT.out.o.own l2 (by simp)).below hb).ok)
      have e4 : IntKind.i64.wrap ((q : Int) + 1) = (q : Int) + 1 := by rw [IntKind.wrap_i64]; omega
      have e5 : IntKind.i64.wrap (q : Int) = (q : Int) := by rw [IntKind.wrap_i64]; omega
      have e6 : (((q + 1 : Nat) : Int)) = (q : Int) + 1 := by omega
      have e7 : (((q + 1 + 1 : Nat) : Int)) = (q : Int) + 1 + 1 := by omega
      have b1 : (0 : Int) < (q : Int) + 1 := by omega
      have i2 : (q : Int) < (q : Int) + 1 + 1 := by omega
      have i3 : (0 : Int) ≤ (q : Int) := by omega
      have i4 : (q : Int) + 1 < (q : Int) + 1 + 1 := by omega
      have i5 : (0 : Int) ≤ (q : Int) + 1 := by omega
      have b2 : (0 : Int) < (q : Int) + 1 + 1 := by omega
      clear hz0 hq
      by_cases ha : Alike l2.o p.o
      · have HA := Lib.hid (show decide (Alike l2.o p.o) = true from decide_eq_true ha)
        have HAA := Lib.hid ha
        have HLGY := Lib.hid (HLG.out l2 hlR ha HP.out)
        have HLGY := Lib.hid (show Lg (((zs1 ++ [l2]) ++ [d])[q]'(by simp [HM.out])) p from by have e : (((zs1 ++ [l2]) ++ [d])[q]'(by simp [HM.out])) = l2 := (by simp [← HM.out]); rw [e]; exact HLGY.out)
        clear ha hlR
        go_upto_region 8 with ((go_at_call 74; refine (HLEN.out _).mono ?_; rintro e w1 ⟨rfl, hb⟩; have B1 := Lib.hid (below_add HW0.out hb HW0.out.size); have K1 := Lib.hid (HK.out.below hb); have cm1 := HT.out.cell B1.out; obtain ⟨p0, p1, p2, p3, p4⟩ := K1.out.c; obtain ⟨d0, d1, d2, d3, d4⟩ := HD.out _ B1.out; clear hb))
        have y1 := HL2.out _ B1.out
        obtain ⟨y10, y11, y12, y13, y14⟩ := y1
        go_region_held3 (fun w' => w'.cell? ⟨bm, 0, none⟩ = some (.slice (some ⟨g, 0, none⟩) (q + 1 + 1) vc) ∧ OAt g (q * 5) l2 w' ∧ OAt wr.heap.size 0 p w') (first | assumption | ((repeat' apply And.intro) <;> first | assumption | go_keep)) ((go_at_call 37; refine (HAL.out l2 _ (HLO.out _ B1.out.drew) B1.out.drew true HA.out).mono ?_; rintro e w3 ⟨rfl, hb⟩; have K3 := Lib.hid ((K1.out.below (Below.refl _ _).drew).below hb); have s1 := HT.out.cell K3.out.b; obtain ⟨s20, s21, s22, s23, s24⟩ := HL2.out _ K3.out.b; obtain ⟨s30, s31, s32, s33, s34⟩ := K3.out.c; clear hb))
        go_upto_region 9 with fail
        have cm3 := HT.out.cell K3.out.b
        obtain ⟨p0, p1, p2, p3, p4⟩ := K3.out.c
        go_region_law ((refine step_call (by rfl) (f := 75) (args := #[.pointer (some ⟨g, q * 5, none⟩), p.v]) (by go_simp) ?_; refine (lengthen_any g (q + 1 + 1) vc (q) ((zs1 ++ [l2]) ++ [d]) p _ (HT.out.tight (below_add K3.out.b (Below.refl _ _).drew K3.out.b.size)) (by simp [HM.out]) (HOK.out _ (below_add K3.out.b (Below.refl _ _).drew K3.out.b.size)) HLGY.out).mono ?_; rintro e w4 ⟨rfl, y4, hy4, ho4, hoff4⟩; refine ⟨_, rfl, ?_⟩))
        all_goals
          go_wp2
          go_roundw
          case rel => exact ⟨k + 1, _, _, _, _, HLT.out, by go_num, HNX.out _ _ _ _ _ (HT.out.longer HG.out HBM0.out (below_add K3.out.b (Below.refl _ _).drew K3.out.b.size) ho4 hoff4 (by simp [HM.out]) (by rw [← HT.out.r]; have e := HM.out; subst e; exact way_aheadL (by simpa using hy4) HP.out HK2.out HD3.out HAA.out))⟩
          case measure => have := HLT.out; simp [intOf]; omega
      · have HA := Lib.hid (show decide (Alike l2.o p.o) = false from decide_eq_false ha)
        have HAA := Lib.hid ha
        clear ha hlR
        have HBMK := Lib.hid (fun w6 w7 (hb : Below wr.heap.size wr w6) (ho : Off (fun k => Ft G w wr k ∨ wr.heap.size ≤ k) w6 w7) => (bm_kept HT.out HG.out HBM0.out hb ho))
        go_upto_region 8 with ((go_at_call 74; refine (HLEN.out _).mono ?_; rintro e w1 ⟨rfl, hb⟩; have B1 := Lib.hid (below_add HW0.out hb HW0.out.size); have K1 := Lib.hid (HK.out.below hb); have cm1 := HT.out.cell B1.out; obtain ⟨p0, p1, p2, p3, p4⟩ := K1.out.c; obtain ⟨d0, d1, d2, d3, d4⟩ := HD.out _ B1.out; clear hb))
        have y1 := HL2.out _ B1.out
        obtain ⟨y10, y11, y12, y13, y14⟩ := y1
        go_region_held3 (fun w' => w'.cell? ⟨bm, 0, none⟩ = some (.slice (some ⟨g, 0, none⟩) (q + 1 + 1) vc) ∧ OAt g (q * 5) l2 w' ∧ OAt wr.heap.size 0 p w') (first | assumption | ((repeat' apply And.intro) <;> first | assumption | go_keep)) ((go_at_call 37; refine (HAL.out l2 _ (HLO.out _ B1.out.drew) B1.out.drew false HA.out).mono ?_; rintro e w3 ⟨rfl, hb⟩; have K3 := Lib.hid ((K1.out.below (Below.refl _ _).drew).below hb); have s1 := HT.out.cell K3.out.b; obtain ⟨s20, s21, s22, s23, s24⟩ := HL2.out _ K3.out.b; obtain ⟨s30, s31, s32, s33, s34⟩ := K3.out.c; clear hb))
        go_upto_region 10 with fail
        have cm3 := HT.out.cell K3.out.b
        obtain ⟨p0, p1, p2, p3, p4⟩ := K3.out.c
        have hbm3 : bm < w3.heap.size := Nat.lt_of_lt_of_le hbm2 K3.out.b.size
        have K5 := Lib.hid (K3.out.below (kbelow_one w3 (.cells p.cs 56)).drew)
        have HU5 := Lib.hid ((orow_one w3 p 56 (HOK.out _ K3.out.b)).below (Below.refl _ _).drew)
        go_region_law (first
          | (refine step_call (by rfl) (f := 77) (args := #[.slice (some ⟨w3.heap.size, 0, none⟩) 1 1]) (by go_simp) ?_; refine (HCP.out _ K5.out.b _ HU5.out).mono ?_; rintro e w6 ⟨u6, ys6, rfl, he6, ho6, hb6⟩; obtain ⟨z6, gu, uc, rfl, hz6, rfl⟩ := own_single ho6 he6; have cm6 := HT.out.cell (below_add K5.out.b hb6 K5.out.b.size); obtain ⟨p0, p1, p2, p3, p4⟩ := (K5.out.below hb6).c; have B6 := Lib.hid (below_add K5.out.b hb6 K5.out.b.size); have HAP := Lib.hid (copy_apart HT.out K5.out.b hb6 ho6); have HZ6 := Lib.hid hz6; clear hb6 ho6 hz6 he6; refine ⟨_, rfl, ?_⟩)
          | (refine step_call (by rfl) (f := 76) (args := #[.slice (some ⟨g, 0, none⟩) (q + 1 + 1) vc, .int .i64 (((q + 1 : Nat)) : Int), .slice (some ⟨gu, 0, none⟩) 1 uc]) (by go_simp) ?_; refine (insert_mid _ (q + 1) vc (zs1 ++ [l2]) d gu uc z6 w6 HAP.out.2.2.2 (by simp [HM.out]) HAP.out.1 HAP.out.2.1 HAP.out.2.2.1 (by omega)).mono ?_; rintro e w7 ⟨v7, rfl, ho7, hoff7⟩; obtain ⟨va7, n7, vc7, hn7, rfl⟩ := own_sh ho7; obtain ⟨cm7, fm7⟩ := HBMK.out w6 w7 B6.out hoff7; refine ⟨_, rfl, ?_⟩))
        all_goals
          go_wp2
          go_roundw
          case rel => exact ⟨k + 1, _, _, _, _, HLT.out, by go_num, HNX.out _ _ _ _ _ (HT.out.laid HG.out HBM0.out B6.out ho7 hoff7 hn7 (by rw [← HT.out.r]; exact way_ahead HZ6.out HP.out HK2.out HD3.out HAA.out))⟩
          case measure => have := HLT.out; simp [intOf]; omega
    · obtain rfl : k = xs.length := by omega
      have h1 := HTL.out.ts
      have h2 := HTL.out.ri
      rw [List.take_length] at h1 h2
      have HE := Lib.hid (And.intro h1 h2)
      clear h1 h2 HTL
      go_wp2
      try rw [Exit.noGoto_normal]
      go_end0
      exact ⟨rfl, _, _, _, _, HE.out.1, HE.out.2⟩
end Go.Proofs.YtohgopibimgjfaaGreat

/- N17: Of, New, Retain, Insert, Delete, Ops -/
namespace Go.Proofs.YtohgopibimgjfaaGreat
open Go.RowKit
set_option linter.unusedVariables false
set_option maxRecDepth 100000

theorem mnew_any (w : World) : Calls Tryz.prog 38 #[] w fun e w' => e = .returned (.pointer (some ⟨w.heap.size, 0, none⟩)) ∧ w' = w.alloc (.cells #[.slice none 0 0] 92) := by
  go_enter Tryz.func38, Tryz.ntmps38
  go_wp2
  go_ret
  exact ⟨rfl, rfl⟩
theorem ts_new (G : Nat → Prop) (bm : Nat) (w : World) (h : Cb bm 92 #[.slice none 0 0] w) : TS G bm w [] none 0 0 [] w := ⟨h, Oown.nil _ _, rfl, rfl, Off.refl _ _⟩
/-- What ops come in. -/
structure In (xs : List Oz) : Prop where
  sm : ∀ x ∈ xs, Sm x
  n : ∀ x ∈ xs, x.n ≤ 9223372036854775807
  len : xs.length ≤ 50331648
  rs : sumR (xs.map Oz.o) ≤ 50331648
theorem lastI_ends (zs : List Oz) : lastI zs = true ↔ ¬ Ends ((zs.map Oz.o).reverse) := by
  have key : ∀ r : List Oz, lastI r.reverse = true ↔ ¬ Ends (r.map Oz.o) := fun r => by
    cases r with
    | nil => simp [lastI, Ends]
    | cons z r =>
      have e : (z :: r).reverse = r.reverse ++ [z] := by simp
      rw [e, List.map_cons]
      have hl : lastI (r.reverse ++ [z]) = (decide (z.k = 1) && decide (z.pt.length = 0)) := by simp [lastI]
      rw [hl]
      simp only [Ends, Idle, Bool.and_eq_true, decide_eq_true_eq, Decidable.not_not]
      exact ⟨fun h => ⟨h.1, List.eq_nil_of_length_eq_zero h.2⟩, fun h => ⟨h.1, by have : z.pt = [] := h.2; rw [this]; rfl⟩⟩
  have := key zs.reverse
  rwa [List.reverse_reverse, List.map_reverse] at this
theorem Oown.settle {F : Nat → Prop} {w : World} {a : Option Addr} {n c : Nat} {zs : List Oz} (h : Oown F w (.slice a n c) zs) (hn : zs.length = n) : Oown F w (.slice a (settleZ zs).length c) (settleZ zs) := by
  subst hn
  unfold settleZ
  by_cases hl : lastI zs = true
  · rw [if_pos hl]
    have h0 : 0 < zs.length := by
      cases zs with
      | nil => simp [lastI] at hl
      | cons _ _ => simp
    have := h.head (k := zs.length - 1) (by omega) h0
    rwa [show (zs.take (zs.length - 1)).length = zs.length - 1 by rw [List.length_take]; omega]
  · rw [if_neg hl]; exact h
set_option maxHeartbeats 2000000 in
theorem of_any (u : Value) (xs : List Oz) (w : World) (hx : Orow w u xs) (hi : In xs) :
    Calls Tryz.prog 18 #[u] w fun e w' => ∃ v ys, e = .returned v ∧ ys.map Oz.o = formO (xs.map Oz.o) ∧ Oown (fun g => w.heap.size ≤ g) w' v ys ∧ Below w.heap.size w w' := by
  obtain ⟨a1, cap1, rfl⟩ := hx.shape
  have HB := Lib.hid (kbelow_one w (.cells #[.slice none 0 0] 92))
  have hC := cb_new w 92 #[.slice none 0 0]
  have hS : ∀ g, (g = w.heap.size ∨ False) → w.heap.size ≤ g := fun g h => by rcases h with h | h; omega; exact h.elim
  have HTL := Lib.hid (tell_any (fun _ => False) w.heap.size (.slice a1 xs.length cap1) [] 0 0 none 0 0 [] xs _ (fun h => h) (by simp) (ts_new _ _ _ hC) ri_nil (hx.below HB.out) (fun a m c e => by injection e with e1 e2 e3; subst e1 e2 e3; exact hx.row.na hS) (fun x hm => (hx.ok x hm).na hS) hi.sm hi.n (by have := hi.len; omega) (by have := hi.rs; omega))
  have HSET := Lib.hid settled_any
  go_enter Tryz.func18, Tryz.ntmps18
  go_wp2_with (first
    | (go_at_call 38; refine (mnew_any w).mono ?_; rintro e w1 ⟨rfl, rfl⟩)
    | (go_at_call 39; refine (HTL.out).mono ?_; rintro e w2 ⟨rfl, va, n, vc, zs, hts, -⟩; have cm := hts.cell (Below.refl _ _); have HTS := Lib.hid hts; obtain ⟨n', hn'⟩ : ∃ n', zs.length = n' := ⟨_, rfl⟩; obtain rfl : n' = n := hn'.symm.trans hts.n; clear hts)
    | (go_at_call 36; subst hn'; refine (HSET.out va vc zs w2 HTS.out.o.orow).mono ?_; rintro e w3 ⟨rfl, rfl⟩))
  go_ret
  have hts := HTS.out
  refine ⟨_, settleZ zs, rfl, ?_, (hts.o.settle rfl).mono fun g hg => ?_, ?_⟩
  · rw [settleZ_o, hts.r]; rfl
  · rcases hg with hg | hg
    · exact hg.elim
    · rw [World.size_alloc] at hg; omega
  · exact HB.out.trans (hts.off.below (B := w.heap.size) (fun k hk => by rcases hk with hk | hk; omega; exact hk.elim) (by simp))
end Go.Proofs.YtohgopibimgjfaaGreat

/- N18: Is; a maker's calls -/
namespace Go.Proofs.YtohgopibimgjfaaGreat
open Go.RowKit
set_option linter.unusedVariables false
set_option maxRecDepth 100000

theorem nr_one (l : List Opn) : NR (l.take 1).reverse := by
  cases l with
  | nil => trivial
  | cons x r => trivial
theorem nr_step {l : List Opn} {k : Nat} (h : k + 1 < l.length) (hn : NR (l.take (k + 1)).reverse) (hb : ¬ Bad l[k] l[k + 1]) : NR (l.take (k + 1 + 1)).reverse := by
  have e1 : l.take (k + 1 + 1) = l.take (k + 1) ++ [l[k + 1]] := List.take_succ_eq_append_getElem h
  have e2 : l.take (k + 1) = l.take k ++ [l[k]] := List.take_succ_eq_append_getElem (by omega)
  rw [e1, List.reverse_append, List.reverse_singleton, List.singleton_append]
  rw [e2, List.reverse_append, List.reverse_singleton, List.singleton_append] at hn ⊢
  exact ⟨hb, hn⟩
theorem nr_pre {a b : List Opn} (h : NR (a ++ b).reverse) : NR a.reverse := by
  have : ∀ r : List Opn, NR (r ++ a.reverse) → NR a.reverse := fun r => by
    induction r with
    | nil => intro h; exact h
    | cons x r ih => intro h; exact ih h.tail
  rw [List.reverse_append] at h
  exact this _ h
theorem nr_bad {l : List Opn} {k : Nat} (h : k + 1 < l.length) (hb : Bad l[k] l[k + 1]) : ¬ NR l.reverse := fun hn => by
  have e : l = l.take (k + 1 + 1) ++ l.drop (k + 1 + 1) := (List.take_append_drop _ _).symm
  rw [e] at hn
  have h2 := nr_pre hn
  have e1 : l.take (k + 1 + 1) = l.take (k + 1) ++ [l[k + 1]] := List.take_succ_eq_append_getElem h
  have e2 : l.take (k + 1) = l.take k ++ [l[k]] := List.take_succ_eq_append_getElem (by omega)
  rw [e1, List.reverse_append, List.reverse_singleton, List.singleton_append, e2, List.reverse_append, List.reverse_singleton, List.singleton_append] at h2
  exact h2.1 hb
/-- What Is answers. -/
def IsP (xs : List Oz) (e : Ending) : Prop := ∃ b, e = .returned (.bool b) ∧ (b = true ↔ normal (xs.map Oz.o))
set_option maxHeartbeats 4000000 in
theorem is_any (u : Value) (xs : List Oz) (w : World) (hx : Orow w u xs) :
    Calls Tryz.prog 17 #[u] w fun e w' => IsP xs e ∧ Below w.heap.size w w' := by
  have hl := hx.len
  obtain ⟨a1, cap1, rfl⟩ := hx.shape
  have HSE := Lib.hid (settled_any a1 cap1 xs w hx)
  have hle := settleZ_len xs
  by_cases hli : lastI xs = true
  · rw [if_pos hli] at hle
    have h0 : 0 < xs.length := by
      cases xs with
      | nil => simp [lastI] at hli
      | cons _ _ => simp
    have HN := Lib.hid (show ¬ normal (xs.map Oz.o) from fun h => (lastI_ends xs).1 hli h.2)
    rw [hle] at HSE
    obtain ⟨n, hn⟩ : ∃ n, xs.length = n + 1 := ⟨xs.length - 1, by omega⟩
    rw [hn, Nat.add_sub_cancel] at HSE
    rw [hn]
    have q1 : ((n : Int) < (n : Int) + 1) := by omega
    clear hli hle hx h0
    go_enter Tryz.func17, Tryz.ntmps17
    go_wp2_with (go_at_call 36; refine (HSE.out).mono ?_; rintro e w1 ⟨rfl, rfl⟩)
    go_ret
    exact ⟨⟨false, rfl, by simp only [Bool.false_eq_true, false_iff]; exact HN.out⟩, Below.refl _ _⟩
  rw [if_neg hli] at hle
  have HEN := Lib.hid (show Ends (xs.map Oz.o).reverse from Classical.not_not.1 (fun h => hli ((lastI_ends xs).2 h)))
  rw [hle] at HSE
  have HX := Lib.hid hx
  have HHAT := Lib.hid (fun (h0 : 0 < xs.length) => hx.row.ats h0)
  clear hli hx
  go_enter Tryz.func17, Tryz.ntmps17
  go_wp2_with (go_at_call 36; refine (HSE.out).mono ?_; rintro e w1 ⟨rfl, rfl⟩)
  go_loopw [3] (fun i wr => ∃ k : Nat, i = .int .i64 ((k : Int) + 1) ∧ (k + 1 ≤ xs.length ∨ k = 0) ∧ Hid (NR ((xs.map Oz.o).take (k + 1)).reverse ∧ Below w1.heap.size w1 wr)) (fun i _ => xs.length + 1 - (intOf i).toNat)
  case atStart => exact ⟨0, rfl, .inr rfl, Lib.hid ⟨nr_one _, Below.refl _ _⟩⟩
  case round =>
    obtain ⟨k, rfl, hk, HP⟩ := hrel
    by_cases hlt : k + 1 < xs.length
    · obtain ⟨b1, o1, rfl, -, -, -, hbl, hat⟩ := HHAT.out (by omega)
      have hC0 := (hat k (by omega)).below HP.out.2
      have hD0 := (hat (k + 1) hlt).below HP.out.2
      have e1 : ((xs.map Oz.o)[k]'(by simp; omega)) = xs[k].o := by simp
      have e2 : ((xs.map Oz.o)[k + 1]'(by simp; omega)) = xs[k + 1].o := by simp
      have HST := Lib.hid (fun (hb : ¬ Bad xs[k].o xs[k + 1].o) => nr_step (l := xs.map Oz.o) (by simp; omega) HP.out.1 (by rw [e1, e2]; exact hb))
      have HBD := Lib.hid (fun (hb : Bad xs[k].o xs[k + 1].o) (h : normal (xs.map Oz.o)) => nr_bad (l := xs.map Oz.o) (k := k) (by simp; omega) (by rw [e1, e2]; exact hb) h.1)
      have KY := Lib.hid (HX.out.ok _ (List.getElem_mem (show k < xs.length by omega)))
      have KZ := Lib.hid (HX.out.ok _ (List.getElem_mem hlt))
      have HBR := Lib.hid HP.out.2
      have HLT := Lib.hid hlt
      clear HP hat e1 e2 HHAT
      generalize xs[k] = y at *
      generalize xs[k + 1] = z at *
      have HAL := Lib.hid (fun b (h : decide (Alike y.o z.o) = b) W (hb : Below w1.heap.size w1 W) => alike_any b y z W (KY.out.below hb) (KZ.out.below hb) h)
      have HB1 := Lib.hid (below_add HBR.out ((kbelow_two wr (.cells y.cs 56) (.cells z.cs 56)).drew) HBR.out.size)
      have HB2 := Lib.hid (below_add HBR.out ((kbelow_two wr (.cells z.cs 56) (.cells y.cs 56)).drew) HBR.out.size)
      have HX1 := Lib.hid (((OAt.new wr y 56).below (kbelow_one _ (.cells z.cs 56))).below (Below.refl _ _).drew)
      have HY1 := Lib.hid ((OAt.new (wr.alloc (.cells y.cs 56)) z 56).below (Below.refl _ _).drew)
      have HY2 := Lib.hid (((OAt.new wr z 56).below (kbelow_one _ (.cells y.cs 56))).below (Below.refl _ _).drew)
      have HX2 := Lib.hid ((OAt.new (wr.alloc (.cells z.cs 56)) y 56).below (Below.refl _ _).drew)
      rw [World.size_alloc] at HY1 HX2
      have i1 : (k : Int) < (xs.length : Int) := by omega
      have i2 : (0 : Int) ≤ (k : Int) := by omega
      have i3 : (k : Int) + 1 < (xs.length : Int) := by omega
      have i4 : (0 : Int) ≤ (k : Int) + 1 := by omega
      have e3 : IntKind.i64.wrap (k : Int) = (k : Int) := by rw [IntKind.wrap_i64]; omega
      have e4 : ((k : Int) + 1).toNat = k + 1 := by omega
      clear KY KZ hk hlt
      go_wp2
      obtain ⟨c0, c1, c2, c3, c4⟩ := hC0
      obtain ⟨d0, d1, d2, d3, d4⟩ := hD0
      have n0 := World.new_ne _ _ c0
      have n1 := World.new_ne _ _ d0
      go_region_held3 (fun w' => OAt b1 (o1 + k * 5) y w' ∧ OAt b1 (o1 + (k + 1) * 5) z w') ((repeat' apply And.intro) <;> go_keep) (fail)
      · have FX := HX1
        have FY := HY1
        have FB := HB1
        clear HX1 HX2 HY1 HY2 HB1 HB2 c0 c1 c2 c3 c4 d0 d1 d2 d3 d4 n0 n1
        obtain ⟨c0, c1, c2, c3, c4⟩ := FX.out
        obtain ⟨d0, d1, d2, d3, d4⟩ := FY.out
        by_cases ha : Alike y.o z.o
        · have HN := Lib.hid (HBD.out (.inl ha))
          have HA := Lib.hid (HAL.out true (decide_eq_true ha))
          clear ha HAL
          go_wp2_with (go_at_call 37; refine (HA.out _ FB.out).mono ?_; rintro e w2 ⟨rfl, hb⟩; have GB := Lib.hid (below_add FB.out hb FB.out.size); obtain ⟨c0, c1, c2, c3, c4⟩ := FX.out.below hb; obtain ⟨d0, d1, d2, d3, d4⟩ := FY.out.below hb; clear hb)
          go_ret
          exact ⟨⟨false, rfl, by simp only [Bool.false_eq_true, false_iff]; exact HN.out⟩, GB.out⟩
        have HA := Lib.hid (HAL.out false (decide_eq_false ha))
        clear HAL
        by_cases h3 : y.k = 3
        rotate_left
        · have q3 : (y.k == 3) = false := by simpa using h3
          have HN := Lib.hid (HST.out (fun hb => hb.elim ha (fun h => h3 h.1)))
          clear ha h3
          go_wp2_with (go_at_call 37; refine (HA.out _ FB.out).mono ?_; rintro e w2 ⟨rfl, hb⟩; have GB := Lib.hid (below_add FB.out hb FB.out.size); obtain ⟨c0, c1, c2, c3, c4⟩ := FX.out.below hb; obtain ⟨d0, d1, d2, d3, d4⟩ := FY.out.below hb; clear hb)
          go_roundw
          case rel => exact ⟨k + 1, by go_num, .inl (by have := HLT.out; omega), Lib.hid ⟨HN.out, GB.out⟩⟩
          case measure => have := HLT.out; simp [intOf]; omega
        have q3 : (y.k == 3) = true := by simpa using h3
        by_cases h2 : z.k = 2
        · have q2 : (z.k == 2) = true := by simpa using h2
          have HN := Lib.hid (HBD.out (.inr ⟨h3, h2⟩))
          clear ha h3 h2
          go_wp2_with (go_at_call 37; refine (HA.out _ FB.out).mono ?_; rintro e w2 ⟨rfl, hb⟩; have GB := Lib.hid (below_add FB.out hb FB.out.size); obtain ⟨c0, c1, c2, c3, c4⟩ := FX.out.below hb; obtain ⟨d0, d1, d2, d3, d4⟩ := FY.out.below hb; clear hb)
          go_ret
          exact ⟨⟨false, rfl, by simp only [Bool.false_eq_true, false_iff]; exact HN.out⟩, GB.out⟩
        · have q2 : (z.k == 2) = false := by simpa using h2
          have HN := Lib.hid (HST.out (fun hb => hb.elim ha (fun h => h2 h.2)))
          clear ha h3 h2
          go_wp2_with (go_at_call 37; refine (HA.out _ FB.out).mono ?_; rintro e w2 ⟨rfl, hb⟩; have GB := Lib.hid (below_add FB.out hb FB.out.size); obtain ⟨c0, c1, c2, c3, c4⟩ := FX.out.below hb; obtain ⟨d0, d1, d2, d3, d4⟩ := FY.out.below hb; clear hb)
          go_roundw
          case rel => exact ⟨k + 1, by go_num, .inl (by have := HLT.out; omega), Lib.hid ⟨HN.out, GB.out⟩⟩
          case measure => have := HLT.out; simp [intOf]; omega
      · have FX := HX2
        have FY := HY2
        have FB := HB2
        clear HX1 HX2 HY1 HY2 HB1 HB2 c0 c1 c2 c3 c4 d0 d1 d2 d3 d4 n0 n1
        obtain ⟨c0, c1, c2, c3, c4⟩ := FX.out
        obtain ⟨d0, d1, d2, d3, d4⟩ := FY.out
        by_cases ha : Alike y.o z.o
        · have HN := Lib.hid (HBD.out (.inl ha))
          have HA := Lib.hid (HAL.out true (decide_eq_true ha))
          clear ha HAL
          go_wp2_with (go_at_call 37; refine (HA.out _ FB.out).mono ?_; rintro e w2 ⟨rfl, hb⟩; have GB := Lib.hid (below_add FB.out hb FB.out.size); obtain ⟨c0, c1, c2, c3, c4⟩ := FX.out.below hb; obtain ⟨d0, d1, d2, d3, d4⟩ := FY.out.below hb; clear hb)
          go_ret
          exact ⟨⟨false, rfl, by simp only [Bool.false_eq_true, false_iff]; exact HN.out⟩, GB.out⟩
        have HA := Lib.hid (HAL.out false (decide_eq_false ha))
        clear HAL
        by_cases h3 : y.k = 3
        rotate_left
        · have q3 : (y.k == 3) = false := by simpa using h3
          have HN := Lib.hid (HST.out (fun hb => hb.elim ha (fun h => h3 h.1)))
          clear ha h3
          go_wp2_with (go_at_call 37; refine (HA.out _ FB.out).mono ?_; rintro e w2 ⟨rfl, hb⟩; have GB := Lib.hid (below_add FB.out hb FB.out.size); obtain ⟨c0, c1, c2, c3, c4⟩ := FX.out.below hb; obtain ⟨d0, d1, d2, d3, d4⟩ := FY.out.below hb; clear hb)
          go_roundw
          case rel => exact ⟨k + 1, by go_num, .inl (by have := HLT.out; omega), Lib.hid ⟨HN.out, GB.out⟩⟩
          case measure => have := HLT.out; simp [intOf]; omega
        have q3 : (y.k == 3) = true := by simpa using h3
        by_cases h2 : z.k = 2
        · have q2 : (z.k == 2) = true := by simpa using h2
          have HN := Lib.hid (HBD.out (.inr ⟨h3, h2⟩))
          clear ha h3 h2
          go_wp2_with (go_at_call 37; refine (HA.out _ FB.out).mono ?_; rintro e w2 ⟨rfl, hb⟩; have GB := Lib.hid (below_add FB.out hb FB.out.size); obtain ⟨c0, c1, c2, c3, c4⟩ := FX.out.below hb; obtain ⟨d0, d1, d2, d3, d4⟩ := FY.out.below hb; clear hb)
          go_ret
          exact ⟨⟨false, rfl, by simp only [Bool.false_eq_true, false_iff]; exact HN.out⟩, GB.out⟩
        · have q2 : (z.k == 2) = false := by simpa using h2
          have HN := Lib.hid (HST.out (fun hb => hb.elim ha (fun h => h2 h.2)))
          clear ha h3 h2
          go_wp2_with (go_at_call 37; refine (HA.out _ FB.out).mono ?_; rintro e w2 ⟨rfl, hb⟩; have GB := Lib.hid (below_add FB.out hb FB.out.size); obtain ⟨c0, c1, c2, c3, c4⟩ := FX.out.below hb; obtain ⟨d0, d1, d2, d3, d4⟩ := FY.out.below hb; clear hb)
          go_roundw
          case rel => exact ⟨k + 1, by go_num, .inl (by have := HLT.out; omega), Lib.hid ⟨HN.out, GB.out⟩⟩
          case measure => have := HLT.out; simp [intOf]; omega
    · have HE := Lib.hid (show normal (xs.map Oz.o) from ⟨by have := HP.out.1; rwa [List.take_of_length_le (by rw [List.length_map]; omega)] at this, HEN.out⟩)
      have HBB := Lib.hid HP.out.2
      have i3 : ¬ ((k : Int) + 1 < (xs.length : Int)) := by omega
      clear HP
      go_wp2
      go_ret
      exact ⟨⟨true, rfl, by simp only [true_iff]; exact HE.out⟩, HBB.out⟩

/-! ### a maker's calls -/
end Go.Proofs.YtohgopibimgjfaaGreat
